import PyProof.Rows.All
import Wide.All
import OpenK.AllK
import Wide.FinOn
import HandS.TupAny
import HandS.ForMost
import HandS.IsInst
import HandS.Codes
import HandS.Walk
import HandS.Text
import HandS.StrMore
import HandS.ExcField
import HandS.Exc
import HandS.ExcOwn
import HandS.TryOnly
import HandS.WordsExc
import HandS.CallSlots
import HandS.HotCalls
import HandS.FStr
import HandS.ExcInit
import HandS.Nested
import KE.KExcSuper
import HandS.Property
import HandS.Defaults
import HandS.MakeKwOnly
import HandS.ReCall
import HandS.Strs
import HandS.Star
import HandS.Zip
import HandS.DictComp
import HandS.More
import HandS.SlotsOwn
import PySem.Challenge.RW_sureplay_k98_composed_games_with_branche
set_option Elab.async false
set_option linter.all false
set_option maxRecDepth 100000
set_option maxHeartbeats 4000000
namespace Own
open PySem PySem.Spec PyProof.Rows L2
def topS (i : Nat) : Stmt := PySem.Challenge.pw_sureplay_k98_composed_games_with_branche.main.body.getD i (.Pass ⟨0, 0, 0, 0⟩)
abbrev s_Game_init : Stmt := (inClass (topS 4) 0)
abbrev N_Game_init : List Str := ["self", "options", "variables", "rounds", "name", "on", "size", "block"]
theorem sc_Game_init : FnScope N_Game_init ["self", "options", "variables", "rounds"] (defScope s_Game_init) := ⟨rfl, rfl, rfl, by decide +kernel, rfl, by decide +kernel, by decide +kernel⟩
abbrev s_Numbering_init : Stmt := (inClass (topS 12) 0)
abbrev N_Numbering_init : List Str := ["self"]
theorem sc_Numbering_init : FnScope N_Numbering_init ["self"] (defScope s_Numbering_init) := ⟨rfl, rfl, rfl, by decide +kernel, rfl, by decide +kernel, by decide +kernel⟩
abbrev s_Game_eq : Stmt := (inClass (topS 4) 1)
abbrev N_Game_eq : List Str := ["self", "other"]
theorem sc_Game_eq : FnScope N_Game_eq ["self", "other"] (defScope s_Game_eq) := ⟨rfl, rfl, rfl, by decide +kernel, rfl, by decide +kernel, by decide +kernel⟩
abbrev s_swapped_statement : Stmt := (topS 10)
abbrev N_swapped_statement : List Str := ["statement", "kind"]
theorem sc_swapped_statement : FnScope N_swapped_statement ["statement"] (defScope s_swapped_statement) := ⟨rfl, rfl, rfl, by decide +kernel, rfl, by decide +kernel, by decide +kernel⟩
abbrev s_swapped_block : Stmt := (topS 9)
abbrev N_swapped_block : List Str := ["block", "statement"]
theorem sc_swapped_block : FnScope N_swapped_block ["block"] (defScope s_swapped_block) := ⟨rfl, rfl, rfl, by decide +kernel, rfl, by decide +kernel, by decide +kernel⟩
abbrev s_swapped : Stmt := (topS 8)
abbrev N_swapped : List Str := ["game", "name", "block"]
theorem sc_swapped : FnScope N_swapped ["game"] (defScope s_swapped) := ⟨rfl, rfl, rfl, by decide +kernel, rfl, by decide +kernel, by decide +kernel⟩
abbrev s_Numbering_statement : Stmt := (inClass (topS 12) 2)
abbrev N_Numbering_statement : List Str := ["self", "statement", "kind", "then", "number"]
theorem sc_Numbering_statement : FnScope N_Numbering_statement ["self", "statement"] (defScope s_Numbering_statement) := ⟨rfl, rfl, rfl, by decide +kernel, rfl, by decide +kernel, by decide +kernel⟩
abbrev s_Numbering_numbered : Stmt := (inClass (topS 12) 1)
abbrev N_Numbering_numbered : List Str := ["self", "block", "statement"]
theorem sc_Numbering_numbered : FnScope N_Numbering_numbered ["self", "block"] (defScope s_Numbering_numbered) := ⟨rfl, rfl, rfl, by decide +kernel, rfl, by decide +kernel, by decide +kernel⟩
abbrev s_before : Stmt := (topS 11)
abbrev N_before : List Str := ["game", "other", "sorts", "pairs", "others", "names", "numbering", "rounds", "name", "_", "block"]
theorem sc_before : FnScope N_before ["game", "other"] (defScope s_before) := ⟨rfl, rfl, rfl, by decide +kernel, rfl, by decide +kernel, by decide +kernel⟩
abbrev s_switched : Stmt := (topS 13)
abbrev N_switched : List Str := ["game", "names", "known", "at", "name", "_", "on"]
theorem sc_switched : FnScope N_switched ["game", "names"] (defScope s_switched) := ⟨rfl, rfl, rfl, by decide +kernel, rfl, by decide +kernel, by decide +kernel⟩
abbrev s_law_pool : Stmt := (topS 15)
abbrev N_law_pool : List Str := ["script", "budget"]
theorem sc_law_pool : FnScope N_law_pool ["script", "budget"] (defScope s_law_pool) := ⟨rfl, rfl, rfl, by decide +kernel, rfl, by decide +kernel, by decide +kernel⟩
abbrev s_law_draw : Stmt := (topS 16)
abbrev N_law_draw : List Str := ["pool", "size", "cell", "value"]
theorem sc_law_draw : FnScope N_law_draw ["pool", "size"] (defScope s_law_draw) := ⟨rfl, rfl, rfl, by decide +kernel, rfl, by decide +kernel, by decide +kernel⟩
abbrev s_law_spend : Stmt := (topS 17)
abbrev N_law_spend : List Str := ["pool"]
theorem sc_law_spend : FnScope N_law_spend ["pool"] (defScope s_law_spend) := ⟨rfl, rfl, rfl, by decide +kernel, rfl, by decide +kernel, by decide +kernel⟩
abbrev s_law_few : Stmt := (topS 18)
abbrev N_law_few : List Str := ["pool", "most", "few"]
theorem sc_law_few : FnScope N_law_few ["pool", "most"] (defScope s_law_few) := ⟨rfl, rfl, rfl, by decide +kernel, rfl, by decide +kernel, by decide +kernel⟩
abbrev s_law_number : Stmt := (topS 19)
abbrev N_law_number : List Str := ["pool"]
theorem sc_law_number : FnScope N_law_number ["pool"] (defScope s_law_number) := ⟨rfl, rfl, rfl, by decide +kernel, rfl, by decide +kernel, by decide +kernel⟩
abbrev s_law_same : Stmt := (topS 20)
abbrev N_law_same : List Str := ["actual", "due", "k"]
theorem sc_law_same : FnScope N_law_same ["actual", "due"] (defScope s_law_same) := ⟨rfl, rfl, rfl, by decide +kernel, rfl, by decide +kernel, by decide +kernel⟩
abbrev s_law_keys : Stmt := (topS 21)
abbrev N_law_keys : List Str := ["text"]
theorem sc_law_keys : FnScope N_law_keys [] (defScope s_law_keys) := ⟨rfl, rfl, rfl, by decide +kernel, rfl, by decide +kernel, by decide +kernel⟩
abbrev s_law_name : Stmt := (topS 22)
abbrev N_law_name : List Str := ["pool", "taken", "signs", "name", "k"]
theorem sc_law_name : FnScope N_law_name ["pool", "taken"] (defScope s_law_name) := ⟨rfl, rfl, rfl, by decide +kernel, rfl, by decide +kernel, by decide +kernel⟩
abbrev s_law_expression : Stmt := (topS 24)
abbrev N_law_expression : List Str := ["pool", "names", "picks", "deep", "kind", "pick", "left", "sign"]
theorem sc_law_expression : FnScope N_law_expression ["pool", "names", "picks", "deep"] (defScope s_law_expression) := ⟨rfl, rfl, rfl, by decide +kernel, rfl, by decide +kernel, by decide +kernel⟩
abbrev s_law_statement : Stmt := (topS 26)
abbrev N_law_statement : List Str := ["pool", "names", "picks", "deep", "state", "kind", "word", "test", "then", "name"]
theorem sc_law_statement : FnScope N_law_statement ["pool", "names", "picks", "deep", "state"] (defScope s_law_statement) := ⟨rfl, rfl, rfl, by decide +kernel, rfl, by decide +kernel, by decide +kernel⟩
abbrev s_law_block : Stmt := (topS 25)
abbrev N_law_block : List Str := ["pool", "names", "picks", "deep", "state", "block", "k"]
theorem sc_law_block : FnScope N_law_block ["pool", "names", "picks", "deep", "state"] (defScope s_law_block) := ⟨rfl, rfl, rfl, by decide +kernel, rfl, by decide +kernel, by decide +kernel⟩
abbrev s_law_game : Stmt := (topS 27)
abbrev N_law_game : List Str := ["pool", "names", "picks", "k", "cells", "rounds", "titles", "state", "options", "name"]
theorem sc_law_game : FnScope N_law_game ["pool", "names"] (defScope s_law_game) := ⟨rfl, rfl, rfl, by decide +kernel, rfl, by decide +kernel, by decide +kernel⟩
abbrev s_law_turned : Stmt := (topS 28)
abbrev N_law_turned : List Str := ["block", "turned", "due"]
theorem sc_law_turned : FnScope N_law_turned ["block"] (defScope s_law_turned) := ⟨rfl, rfl, rfl, by decide +kernel, rfl, by decide +kernel, by decide +kernel⟩
abbrev s_law_later : Stmt := (topS 29)
abbrev N_law_later : List Str := ["block", "count", "later", "due"]
theorem sc_law_later : FnScope N_law_later ["block", "count"] (defScope s_law_later) := ⟨rfl, rfl, rfl, by decide +kernel, rfl, by decide +kernel, by decide +kernel⟩
abbrev s_law_is : Stmt := (topS 30)
abbrev N_law_is : List Str := ["game", "due"]
theorem sc_law_is : FnScope N_law_is ["game", "due"] (defScope s_law_is) := ⟨rfl, rfl, rfl, by decide +kernel, rfl, by decide +kernel, by decide +kernel⟩
abbrev s_law_switches : Stmt := (topS 31)
abbrev N_law_switches : List Str := ["game", "made", "names", "known", "right", "k", "passed", "other", "e", "options", "row"]
theorem sc_law_switches : FnScope N_law_switches ["game", "made", "names"] (defScope s_law_switches) := ⟨rfl, rfl, rfl, by decide +kernel, rfl, by decide +kernel, by decide +kernel⟩
abbrev s_law_joins : Stmt := (topS 32)
abbrev N_law_joins : List Str := ["one", "other", "made", "clash", "sort", "row", "joined", "e", "rounds", "entry"]
theorem sc_law_joins : FnScope N_law_joins ["one", "other", "made"] (defScope s_law_joins) := ⟨rfl, rfl, rfl, by decide +kernel, rfl, by decide +kernel, by decide +kernel⟩
abbrev s_law : Stmt := (topS 33)
abbrev N_law : List Str := ["script", "pool", "one", "taken", "sort", "other", "made", "turned", "due", "names", "place", "third", "row"]
theorem sc_law : FnScope N_law ["script"] (defScope s_law) := ⟨rfl, rfl, rfl, by decide +kernel, rfl, by decide +kernel, by decide +kernel⟩
abbrev s_BadEdit_init : Stmt := (inClass (topS 2) 0)
abbrev N_BadEdit_init : List Str := ["self", "what"]
def spLaw (K : PySem.W.Frag) : Sp := fun vs H Q _ => ∃ (a : Addr) (ns : List Int), vs = [.ref a] ∧ SqL K H a (ns.map V.int) ∧ ns.length ≤ 63 ∧ ∀ H', Q (.bl true) H'
def cell (ns : List Int) (k : Int) : Int := ns.getD k.toNat 0
theorem same_upd {H : Hp} {p : Addr} {o : HO} (h : H p = none) : Same H (upd H p o) := fun b x e => by
  rw [upd_ne (ne_of_none e h)]
  exact e
theorem cut_from (xs : List V) (k : Nat) : cutV xs (some (k : Int)) none = xs.drop k := by
  unfold cutV
  rw [HT.sIx_nat, HT.sIx_none]
  by_cases h : k ≤ xs.length
  · rw [Nat.min_eq_left h]
    exact List.take_of_length_le (by rw [List.length_drop]; omega)
  · rw [Nat.min_eq_right (by omega), List.drop_eq_nil_of_le (by omega), List.drop_eq_nil_of_le (by omega)]
    simp
theorem cut_to (xs : List V) (k : Nat) : cutV xs none (some (k : Int)) = xs.take k := by
  unfold cutV
  rw [HT.sIx_nat, HT.sIx_none, List.drop_zero, Nat.sub_zero]
  by_cases h : k ≤ xs.length
  · rw [Nat.min_eq_left h]
  · rw [Nat.min_eq_right (by omega), List.take_of_length_le (Nat.le_refl _), List.take_of_length_le (by omega)]
theorem cut_to' (xs : List V) (k : Int) (h : 0 ≤ k) : cutV xs none (some k) = xs.take k.toNat := by
  obtain ⟨m, rfl⟩ := Int.eq_ofNat_of_zero_le h
  exact cut_to xs m
theorem cut_from' (xs : List V) (k : Int) (h : 0 ≤ k) : cutV xs (some k) none = xs.drop k.toNat := by
  obtain ⟨m, rfl⟩ := Int.eq_ofNat_of_zero_le h
  exact cut_from xs m
theorem small_le {n : Nat} (h : n ≤ 1000) : n ≤ sizeLine := Nat.le_of_lt (small1000 h)
theorem at_ofG {α : Type} {xs : List α} {z : Int} {j : Nat} {v : α} (e : z = (j : Int)) (h : xs[j]? = some v) : atI xs z = some v := by
  rw [e]
  exact atI_nat h
theorem int_of_map {ns : List Int} {i : Nat} {y : V} (hi : (ns.map V.int)[i]? = some y) : ∃ z, ns[i]? = some z ∧ y = V.int z := by
  rw [List.getElem?_map] at hi
  cases e : ns[i]? with
  | none => rw [e] at hi; cases hi
  | some u => rw [e] at hi; exact ⟨u, rfl, (Option.some.inj hi).symm⟩
theorem dp_ints {K : PySem.W.Frag} {H : Hp} : ∀ ns : List Int, DpAll K H (ns.map V.int) (ns.map PyData.int)
  | [] => .nil
  | n :: r => .cons (.int n) (dp_ints r)
theorem lay_ints : ∀ ns : List Int, PyData.canLayAll0 (ns.map PyData.int) = true ∧ PyData.depthAll (ns.map PyData.int) = 0
  | [] => ⟨by simp [PyData.canLayAll0], by simp [PyData.depthAll]⟩
  | n :: r => by
    have ih := lay_ints r
    exact ⟨by simp [PyData.canLayAll0, PyData.canLay0, ih.1], by simp [PyData.depthAll, PyData.depth, ih.2]⟩
theorem shaped_ints (ns : List Int) : SeqAt.shaped (.list (ns.map PyData.int)) = true := by
  have h := lay_ints ns
  unfold SeqAt.shaped
  simp [PyData.canLay0, PyData.depth, h.1, h.2]
theorem eqv_ints (ns : List Int) : PyData.eqv (.list (ns.map PyData.int)) (.list (ns.map PyData.int)) = true :=
  SeqAt.eqv_refl _ (by rw [PyData.canLay0]; exact (lay_ints ns).1)

mutual
/-- data that never changes: scalars and tracked tuples of such -/
inductive Im (H : Hp) : V → PyData → Prop
  | non : Im H .non .none
  | bl (b : Bool) : Im H (.bl b) (.bool b)
  | int (i : Int) : Im H (.int i) (.int i)
  | str (x : Str) : Im H (.str x) (.str x)
  | tup {a : Addr} {xs : List V} {ds : List PyData} : H a = some (.tup xs) → ImAll H xs ds → Im H (.ref a) (.tuple ds)
inductive ImAll (H : Hp) : List V → List PyData → Prop
  | nil : ImAll H [] []
  | cons {v : V} {vs : List V} {d : PyData} {ds : List PyData} : Im H v d → ImAll H vs ds → ImAll H (v :: vs) (d :: ds)
end
/-- the tracked tuples stay -/
def KeepT (H H' : Hp) : Prop := ∀ b xs, H b = some (.tup xs) → H' b = some (.tup xs)
theorem KeepT.refl (H : Hp) : KeepT H H := fun _ _ h => h
theorem KeepT.trans {H H1 H2 : Hp} (a : KeepT H H1) (b : KeepT H1 H2) : KeepT H H2 := fun c x h => b c x (a c x h)
theorem keepT_of {H H' : Hp} (s : Same H H') : KeepT H H' := fun b xs h => s b _ h
theorem keepT_lst {H : Hp} {p : Addr} {xs ys : List V} (h : H p = some (.lst xs)) : KeepT H (upd H p (.lst ys)) := fun b zs e => by
  have n : b ≠ p := fun q => by rw [q, h] at e; cases e
  rw [upd_ne n]
  exact e
mutual
theorem Im.keep {H H' : Hp} (k : KeepT H H') : ∀ {v : V} {d : PyData}, Im H v d → Im H' v d
  | _, _, .non => .non
  | _, _, .bl b => .bl b
  | _, _, .int i => .int i
  | _, _, .str x => .str x
  | _, _, .tup h a => .tup (k _ _ h) (ImAll.keep k a)
theorem ImAll.keep {H H' : Hp} (k : KeepT H H') : ∀ {vs : List V} {ds : List PyData}, ImAll H vs ds → ImAll H' vs ds
  | _, _, .nil => .nil
  | _, _, .cons h a => .cons (Im.keep k h) (ImAll.keep k a)
end
mutual
theorem Im.dp {K : PySem.W.Frag} {H : Hp} : ∀ {v : V} {d : PyData}, Im H v d → Dp K H v d
  | _, _, .non => .non
  | _, _, .bl b => .bl b
  | _, _, .int i => .int i
  | _, _, .str x => .str x
  | _, _, .tup h a => .tup (SqT.of h) (ImAll.dp a)
theorem ImAll.dp {K : PySem.W.Frag} {H : Hp} : ∀ {vs : List V} {ds : List PyData}, ImAll H vs ds → DpAll K H vs ds
  | _, _, .nil => .nil
  | _, _, .cons h a => .cons (Im.dp h) (ImAll.dp a)
end
theorem ImAll.len {H : Hp} : ∀ {vs : List V} {ds : List PyData}, ImAll H vs ds → vs.length = ds.length
  | _, _, .nil => rfl
  | _, _, .cons _ a => by rw [List.length_cons, List.length_cons, ImAll.len a]
theorem ImAll.append {H : Hp} : ∀ {vs us : List V} {ds es : List PyData}, ImAll H vs ds → ImAll H us es → ImAll H (vs ++ us) (ds ++ es)
  | _, _, _, _, .nil, b => b
  | _, _, _, _, .cons h a, b => .cons h (ImAll.append a b)
theorem ImAll.get {H : Hp} : ∀ {vs : List V} {ds : List PyData} {i : Nat} {d : PyData}, ImAll H vs ds → ds[i]? = some d → ∃ v, vs[i]? = some v ∧ Im H v d
  | _, _, 0, _, .cons h _, e => by
    cases e
    exact ⟨_, rfl, h⟩
  | _, _, i + 1, _, .cons _ a, e => by
    rw [List.getElem?_cons_succ] at e
    rw [List.getElem?_cons_succ]
    exact ImAll.get a e
theorem ImAll.take {H : Hp} : ∀ {vs : List V} {ds : List PyData} (i : Nat), ImAll H vs ds → ImAll H (vs.take i) (ds.take i)
  | _, _, 0, _ => by
    rw [List.take_zero, List.take_zero]
    exact .nil
  | _, _, _ + 1, .nil => by
    rw [List.take_nil, List.take_nil]
    exact .nil
  | _, _, i + 1, .cons h a => .cons h (ImAll.take i a)
theorem ImAll.snoc {H : Hp} {vs : List V} {ds : List PyData} {v : V} {d : PyData} (a : ImAll H vs ds) (h : Im H v d) : ImAll H (vs ++ [v]) (ds ++ [d]) := a.append (.cons h .nil)
theorem ImAll.rev {H : Hp} : ∀ {vs : List V} {ds : List PyData}, ImAll H vs ds → ImAll H vs.reverse ds.reverse
  | _, _, .nil => .nil
  | _, _, .cons h a => by
    rw [List.reverse_cons, List.reverse_cons]
    exact (ImAll.rev a).snoc h
mutual
/-- all sequences are short -/
def wide : PyData → Bool
  | .list xs => decide (xs.length ≤ 1000000) && wideAll xs
  | .tuple xs => decide (xs.length ≤ 1000000) && wideAll xs
  | .none => true
  | .bool _ => true
  | .int _ => true
  | .str _ => true
  | .dict _ => false
def wideAll : List PyData → Bool
  | [] => true
  | x :: r => wide x && wideAll r
end
/-- what a comparison asks of data: sizes -/
def Lay (n : Nat) (d : PyData) : Prop := d.canLay0 = true ∧ d.depth ≤ n ∧ wide d = true
theorem lay_all : ∀ {n : Nat} {ds : List PyData}, (∀ d ∈ ds, Lay n d) → PyData.canLayAll0 ds = true ∧ PyData.depthAll ds ≤ n ∧ wideAll ds = true
  | n, [], _ => ⟨by simp [PyData.canLayAll0], by simp [PyData.depthAll], by simp [wideAll]⟩
  | n, d :: r, h => by
    have h1 := h d List.mem_cons_self
    have h2 := lay_all fun e he => h e (List.mem_cons_of_mem d he)
    refine ⟨by simp [PyData.canLayAll0, h1.1, h2.1], ?_, by simp [wideAll, h1.2.2, h2.2.2]⟩
    simp only [PyData.depthAll]
    exact Nat.max_le.mpr ⟨h1.2.1, h2.2.1⟩
theorem lay_tuple {n : Nat} {ds : List PyData} (hl : ds.length ≤ 1000000) (h : ∀ d ∈ ds, Lay n d) : Lay (n + 1) (.tuple ds) := by
  have q := lay_all h
  exact ⟨by simp [PyData.canLay0, q.1], by simp only [PyData.depth]; omega, by simp only [wide, q.2.2, decide_eq_true hl]; rfl⟩
theorem lay_list {n : Nat} {ds : List PyData} (hl : ds.length ≤ 1000000) (h : ∀ d ∈ ds, Lay n d) : Lay (n + 1) (.list ds) := by
  have q := lay_all h
  exact ⟨by simp [PyData.canLay0, q.1], by simp only [PyData.depth]; omega, by simp only [wide, q.2.2, decide_eq_true hl]; rfl⟩
theorem Lay.mono {n m : Nat} {d : PyData} (h : Lay n d) (l : n ≤ m) : Lay m d := ⟨h.1, Nat.le_trans h.2.1 l, h.2.2⟩
theorem Lay.shaped {n : Nat} {d : PyData} (h : Lay n d) (l : n ≤ 64) : SeqAt.shaped d = true := by
  unfold SeqAt.shaped
  rw [h.1, decide_eq_true (Nat.le_trans h.2.1 l)]
  rfl
theorem Lay.refl {n : Nat} {d : PyData} (h : Lay n d) : PyData.eqv d d = true := SeqAt.eqv_refl _ h.1
theorem lay_int (i : Int) : Lay 0 (.int i) := ⟨by simp [PyData.canLay0], by simp [PyData.depth], by simp [wide]⟩
theorem lay_str {x : Str} (h : PyData.strOk x = true) : Lay 0 (.str x) := ⟨by simp [PyData.canLay0, h], by simp [PyData.depth], by simp [wide]⟩
theorem lay_none : Lay 0 .none := ⟨by simp [PyData.canLay0], by simp [PyData.depth], by simp [wide]⟩
theorem lay_bool (b : Bool) : Lay 0 (.bool b) := ⟨by simp [PyData.canLay0], by simp [PyData.depth], by simp [wide]⟩
theorem wide_get {ds : List PyData} {i : Nat} {d : PyData} : wideAll ds = true → ds[i]? = some d → wide d = true := by
  induction ds generalizing i with
  | nil => intro _ h; simp at h
  | cons x r ih =>
    intro hw h
    simp only [wideAll, Bool.and_eq_true] at hw
    cases i with
    | zero => cases h; exact hw.1
    | succ i => exact ih (i := i) hw.2 (by rw [List.getElem?_cons_succ] at h; exact h)
/-- view + (event,) -/
theorem cat_ev {K : PySem.W.Frag} {H : Hp} {v t u : Addr} {xs : List V} {ds : List PyData} {e : PyData} {Q : VK} (hv : H v = some (.tup xs)) (hA : ImAll H xs ds) (he : Im H (.ref t) e) (hu : H u = some (.tup [.ref t])) (hz : xs.length ≤ 900)
    (k : ∀ (p : Addr) (H' : Hp), Same H H' → Im H' (.ref p) (.tuple (ds ++ [e])) → Q (.ref p) H') : rCatA K (.ref v) (.ref u) H Q := by
  refine ⟨v, u, xs, [.ref t], rfl, rfl, SqT.of hv, SqT.of hu, by show xs.length + 1 ≤ sizeLine; exact small_le (by omega), fun z => ?_, fun _ z => (by cases z), fun _ _ p hp => ?_⟩
  · subst z
    cases hA
    exact k u H (Same.refl H) (.tup hu (.cons he .nil))
  · exact k p _ (same_upd hp) (.tup upd_same ((hA.snoc he).keep (keepT_of (same_upd hp))))
theorem upd2_same {H : Hp} {t u : Addr} {o o' : HO} (ht : H t = none) (hu : upd H t o u = none) : Same H (upd (upd H t o) u o') := (same_upd ht).trans (same_upd hu)


/-- the drawing pool at p: the script's cells at c, five numbers -/
def Pool (H : Hp) (p c : Addr) (b : Int) : Prop := ∃ (ns : List Int) (i r s t : Int), H p = some (.lst [.ref c, .int i, .int r, .int s, .int t, .int b]) ∧ H c = some (.lst (ns.map V.int)) ∧ 0 ≤ i ∧ c ≠ p
def But (p : Addr) (H H' : Hp) : Prop := ∀ b o, b ≠ p → H b = some o → H' b = some o
theorem But.refl (p : Addr) (H : Hp) : But p H H := fun _ _ _ h => h
theorem But.trans {p : Addr} {H H1 H2 : Hp} (a : But p H H1) (b : But p H1 H2) : But p H H2 := fun c o n h => b c o n (a c o n h)
theorem but_of {p : Addr} {H H' : Hp} (s : Same H H') : But p H H' := fun b o _ h => s b o h
theorem but_upd {p : Addr} {H : Hp} {o : HO} : But p H (upd H p o) := fun b x n e => by rw [upd_ne n]; exact e
/-- what stood before the list at p was made stays -/
theorem But.same {p : Addr} {H0 H H' : Hp} (b : But p H H') (s : Same H0 H) (n : H0 p = none) : Same H0 H' := fun c o e => b c o (ne_of_none e n) (s c o e)
theorem But.keepT {p : Addr} {xs : List V} {H H' : Hp} (b : But p H H') (h : H p = some (.lst xs)) : KeepT H H' := fun c ys e => b c _ (fun z => by rw [z, h] at e; cases e) e
theorem Pool.keepT {p c : Addr} {b : Int} {H H' : Hp} (h : Pool H p c b) (k : But p H H') : KeepT H H' := by
  obtain ⟨ns, i, r, s, t, hp, _⟩ := h
  exact k.keepT hp
theorem Pool.same {p c : Addr} {b : Int} {H H' : Hp} (h : Pool H p c b) (k : Same H H') : Pool H' p c b := by
  obtain ⟨ns, i, r, s, t, hp, hc, h0, n⟩ := h
  exact ⟨ns, i, r, s, t, k _ _ hp, k _ _ hc, h0, n⟩
theorem Pool.upd {p c q : Addr} {b : Int} {H : Hp} (h : Pool H p c b) (n1 : q ≠ p) (n2 : q ≠ c) (o : HO) : Pool (L2.upd H q o) p c b := by
  obtain ⟨ns, i, r, s, t, hp, hc, h0, n⟩ := h
  exact ⟨ns, i, r, s, t, by rw [upd_ne n1.symm]; exact hp, by rw [upd_ne n2.symm]; exact hc, h0, n⟩
theorem Pool.ne2 {p c q : Addr} {b : Int} {H : Hp} (h : Pool H p c b) (e : H q = none) : q ≠ c := by
  obtain ⟨ns, i, r, s, t, hp, hc, _⟩ := h
  exact fun z => by rw [z, hc] at e; cases e
theorem Pool.ne {p c q : Addr} {b : Int} {H : Hp} (h : Pool H p c b) (e : H q = none) : q ≠ p := by
  obtain ⟨ns, i, r, s, t, hp, _⟩ := h
  exact fun z => by rw [z, hp] at e; cases e
/-- data of any make: tuples and lists that are tracked -/
inductive Da (H : Hp) : V → PyData → Prop
  | non : Da H .non .none
  | bl (b : Bool) : Da H (.bl b) (.bool b)
  | int (i : Int) : Da H (.int i) (.int i)
  | str (x : Str) : Da H (.str x) (.str x)
  | tup {a : Addr} {xs : List V} {ds : List PyData} : H a = some (.tup xs) → xs.length = ds.length → (∀ (i : Nat) v d, xs[i]? = some v → ds[i]? = some d → Da H v d) → Da H (.ref a) (.tuple ds)
  | lst {a : Addr} {xs : List V} {ds : List PyData} : H a = some (.lst xs) → xs.length = ds.length → (∀ (i : Nat) v d, xs[i]? = some v → ds[i]? = some d → Da H v d) → Da H (.ref a) (.list ds)
mutual
theorem Im.da {H : Hp} : ∀ {v : V} {d : PyData}, Im H v d → Da H v d
  | _, _, .non => .non
  | _, _, .bl b => .bl b
  | _, _, .int i => .int i
  | _, _, .str x => .str x
  | _, _, .tup h a => .tup h a.len (ImAll.da a)
theorem ImAll.da {H : Hp} : ∀ {vs : List V} {ds : List PyData}, ImAll H vs ds → ∀ (i : Nat) v d, vs[i]? = some v → ds[i]? = some d → Da H v d
  | _, _, .nil => fun i v d h _ => by simp at h
  | _, _, .cons h a => fun i v d h1 h2 => match i, h1, h2 with
    | 0, h1, h2 => by
      cases h1
      cases h2
      exact Im.da h
    | i + 1, h1, h2 => ImAll.da a i v d (by rw [List.getElem?_cons_succ] at h1; exact h1) (by rw [List.getElem?_cons_succ] at h2; exact h2)
end
theorem Da.strs {H : Hp} {a : Addr} {ys : List Str} (h : H a = some (.lst (ys.map V.str))) : Da H (.ref a) (.list (ys.map PyData.str)) := by
  refine .lst h (by rw [List.length_map, List.length_map]) fun i v d h1 h2 => ?_
  rw [List.getElem?_map] at h1 h2
  cases e : ys[i]? with
  | none => rw [e] at h1; cases h1
  | some y =>
    rw [e] at h1 h2
    cases h1
    cases h2
    exact .str y
theorem depth_get {ds : List PyData} {i : Nat} {d : PyData} : ds[i]? = some d → d.depth ≤ PyData.depthAll ds := by
  induction ds generalizing i with
  | nil => intro h; simp at h
  | cons x r ih =>
    intro h
    simp only [PyData.depthAll]
    cases i with
    | zero => cases h; exact Nat.le_max_left _ _
    | succ i => exact Nat.le_trans (ih (i := i) (by rw [List.getElem?_cons_succ] at h; exact h)) (Nat.le_max_right _ _)

/-- all signs below 128 -/
def Asc (x : Str) : Prop := ∀ c ∈ x.cps.toList, c < 128
def keyL : List Str := ["option", "on", "off", "var", "round", "end", "set", "if", "else", "when", "draw", "first", "second", "show", "both", "pay", "take", "pick", "mod", "player", "keep", "lot", "while", "answer", "view", "long"]
def keyV : List V := keyL.map V.str
theorem key_flat : keyV.all flatV = true := by decide +kernel
def loL : List Nat := List.range' 97 26
def ldL : List Nat := List.range' 97 26 ++ List.range' 48 10
def lettersS : Str := "abcdefghijklmnopqrstuvwxyz"
def ldS : Str := "abcdefghijklmnopqrstuvwxyz0123456789"
theorem letters_eq : lettersS.cps.toList = loL := by decide +kernel
theorem ld_eq : ldS.cps.toList = ldL := by decide +kernel
theorem lo_mem (c : Nat) : c ∈ loL ↔ 97 ≤ c ∧ c ≤ 122 := by
  unfold loL
  rw [List.mem_range'_1]
  omega
theorem ld_mem (c : Nat) : c ∈ ldL ↔ (97 ≤ c ∧ c ≤ 122) ∨ (48 ≤ c ∧ c ≤ 57) := by
  unfold ldL
  rw [List.mem_append, List.mem_range'_1, List.mem_range'_1]
  omega
def othersS : Str := "ABCDEFGHIJKLMNOPQRSTUVWXYZ !\"#$&'()*+,-./:;<=>?@\x5b\\]^_`{|}~\n\t"
def okAt (k c : Nat) : Prop := (97 ≤ c ∧ c ≤ 122) ∨ (0 < k ∧ 48 ≤ c ∧ c ≤ 57)
/-- a name -/
def NameP (x : Str) : Prop := 1 ≤ x.length ∧ x.length ≤ 12 ∧ inV (.str x) keyV = false ∧ ∀ k c, x.cps.toList[k]? = some c → okAt k c
/-- one sign against one sign -/
theorem lt1 (a b : Nat) : ((⟨#[a]⟩ : Str).cps.toList < (⟨#[b]⟩ : Str).cps.toList) ↔ a < b := by
  show [a] < [b] ↔ a < b
  constructor
  · intro h
    rcases List.cons_lt_cons_iff.mp h with h | ⟨_, h⟩
    · exact h
    · exact absurd h (by simp)
  · intro h
    exact List.cons_lt_cons_iff.mpr (.inl h)
/-- a number's word and what it is -/
def NumR (x : Str) (r : V) : Prop := (∃ n : Nat, n ≤ 65535 ∧ x.cps.toList = TL.numL n ∧ r = .int n) ∨ ((∀ n : Nat, n ≤ 65535 → x.cps.toList ≠ TL.numL n) ∧ r = .non)
theorem num_same {x : Str} {r q : V} (h : NumR x r) (g : NumR x q) : r = q := by
  rcases h with ⟨n, hn, e, rfl⟩ | ⟨h, rfl⟩
  · rcases g with ⟨m, hm, e2, rfl⟩ | ⟨g, rfl⟩
    · rw [TL.numL_inj (e.symm.trans e2)]
    · exact absurd e (g n hn)
  · rcases g with ⟨m, hm, e2, rfl⟩ | ⟨g, rfl⟩
    · exact absurd e2 (h m hm)
    · rfl
theorem num_da {x : Str} {r : V} {H : Hp} (h : NumR x r) : ∃ d : PyData, Da H r d ∧ d.depth < 8 ∧ wide d = true := by
  rcases h with ⟨n, hn, e, rfl⟩ | ⟨h, rfl⟩
  · exact ⟨.int n, .int _, by simp [PyData.depth], by simp [wide]⟩
  · exact ⟨.none, .non, by simp [PyData.depth], by simp [wide]⟩
theorem asc_isascii {x : Str} (h : Asc x) : Txt.isascii x = true := by
  unfold Txt.isascii
  rw [Array.all_eq_true_iff_forall_mem]
  intro c m
  exact decide_eq_true (h c (Array.mem_toList_iff.mpr m))
theorem digit128 : ∀ c, c < 128 → PySem.Unicode.isDigit c = (decide (48 ≤ c) && decide (c ≤ 57)) := by decide +kernel
theorem isdigit_iff {x : Str} (h : Asc x) : Txt.isdigit x = true ↔ (NumText.AllDigits x.cps.toList ∧ x.cps.toList ≠ []) := by
  unfold Txt.isdigit
  rw [Bool.and_eq_true, Array.all_eq_true_iff_forall_mem, decide_eq_true_eq]
  constructor
  · rintro ⟨h1, h2⟩
    refine ⟨fun c m => ?_, fun z => ?_⟩
    · have h3 := h2 c (Array.mem_toList_iff.mp m)
      rw [digit128 c (h c m), Bool.and_eq_true, decide_eq_true_eq, decide_eq_true_eq] at h3
      exact h3
    · have h4 : 0 < x.cps.toList.length := h1
      rw [z] at h4
      exact Nat.lt_irrefl 0 h4
  · rintro ⟨h1, h2⟩
    refine ⟨List.length_pos_iff.mpr h2, fun c m => ?_⟩
    have m' := Array.mem_toList_iff.mpr m
    have h3 := h1 c m'
    rw [digit128 c (h c m'), Bool.and_eq_true, decide_eq_true_eq, decide_eq_true_eq]
    exact h3
theorem str_num {x : Str} {n : Nat} (e : x.cps.toList = TL.numL n) : (Str.ofString (toString ((n : Nat) : Int))) = x := ext_toList ((TL.tl_num n).trans e.symm)
theorem num_str {x : Str} {n : Nat} (e : V.str (Str.ofString (toString ((n : Nat) : Int))) = V.str x) : x.cps.toList = TL.numL n := by
  rw [← V.str.inj e]
  exact TL.tl_num n
theorem dv_snoc (l : List Nat) (c : Nat) : NumText.digitsVal (l ++ [c]) = NumText.digitsVal l * 10 + (c - 48) := by
  unfold NumText.digitsVal
  rw [List.foldl_append]
  rfl
theorem name_iff {l : List Nat} {c0 : Nat} (h0 : l[0]? = some c0) : (c0 ∈ loL ∧ ∀ c ∈ l, c ∈ ldL) ↔ ∀ (k : Nat) c, l[k]? = some c → okAt k c := by
  constructor
  · rintro ⟨h1, h2⟩ k c e
    cases k with
    | zero =>
      rw [h0] at e
      cases e
      exact .inl ((lo_mem _).mp h1)
    | succ k =>
      rcases (ld_mem c).mp (h2 c (List.mem_of_getElem? e)) with h | h
      · exact .inl h
      · exact .inr ⟨Nat.succ_pos _, h⟩
  · intro h
    refine ⟨(lo_mem _).mpr ?_, fun c m => (ld_mem c).mpr ?_⟩
    · rcases h 0 c0 h0 with h | h
      · exact h
      · exact absurd h.1 (Nat.lt_irrefl 0)
    · obtain ⟨k, e⟩ := List.getElem?_of_mem m
      rcases h k c e with h | h
      · exact .inl h
      · exact .inr h.2
theorem all_iff {l : List Nat} {m : List Nat} : ((l.map fun c => decide (c ∈ m)).all id = true) ↔ ∀ c ∈ l, c ∈ m := by
  rw [List.all_eq_true]
  constructor
  · intro h c hc
    exact of_decide_eq_true (h _ (List.mem_map.mpr ⟨c, hc, rfl⟩))
  · intro h b hb
    obtain ⟨c, hc, rfl⟩ := List.mem_map.mp hb
    exact decide_eq_true (h c hc)
theorem step_iff {l : List Nat} {i c : Nat} (gc : l[i]? = some c) : (∀ (k : Nat) d, k < i + 1 → l[k]? = some d → okAt k d) ↔ (∀ (k : Nat) d, k < i → l[k]? = some d → okAt k d) ∧ okAt i c := by
  constructor
  · intro h
    exact ⟨fun k d hk => h k d (Nat.lt_succ_of_lt hk), h i c (Nat.lt_succ_self i) gc⟩
  · rintro ⟨h1, h2⟩ k d hk e
    rcases Nat.lt_succ_iff_lt_or_eq.mp hk with h | rfl
    · exact h1 k d h e
    · rw [gc] at e
      cases e
      exact h2
theorem pick {ss : List Str} {r : Int} (h0 : 0 ≤ r) (h1 : r < (ss.length : Int)) : ∃ w, w ∈ ss ∧ atI (ss.map V.str) r = some (.str w) := by
  have hlt : r.toNat < ss.length := by omega
  refine ⟨ss[r.toNat], List.getElem_mem hlt, at_ofG (j := r.toNat) (by omega) ?_⟩
  rw [List.getElem?_map, List.getElem?_eq_getElem hlt]
  rfl
theorem pickS {z : Str} {r : Int} (h0 : 0 ≤ r) (h1 : r < (z.length : Int)) : ∃ c, c ∈ z.cps.toList ∧ atI z.cps.toList r = some c := by
  have hz : z.length = z.cps.toList.length := rfl
  have hlt : r.toNat < z.cps.toList.length := by omega
  exact ⟨z.cps.toList[r.toNat], List.getElem_mem hlt, at_ofG (j := r.toNat) (by omega) (List.getElem?_eq_getElem hlt)⟩
def ascB (n : Nat) (ss : List Str) : Bool := ss.all fun w => decide (w.length ≤ n) && w.cps.toList.all fun c => decide (c < 128)
theorem asc_of {n : Nat} {ss : List Str} (h : ascB n ss = true) {w : Str} (m : w ∈ ss) : Asc w ∧ w.length ≤ n := by
  have h1 := List.all_eq_true.mp h w m
  rw [Bool.and_eq_true, decide_eq_true_eq] at h1
  exact ⟨fun c hc => of_decide_eq_true (List.all_eq_true.mp h1.2 c hc), h1.1⟩
theorem app_list (a b : Str) : (a ++ b).cps.toList = a.cps.toList ++ b.cps.toList := by
  show (a.cps ++ b.cps).toList = _
  simp
theorem app_len (a b : Str) : (a ++ b).length = a.length + b.length := by
  show (a ++ b).cps.toList.length = a.cps.toList.length + b.cps.toList.length
  rw [app_list, List.length_append]
theorem app_asc {a b : Str} (h : Asc a) (g : Asc b) : Asc (a ++ b) := by
  intro c m
  rw [app_list] at m
  rcases List.mem_append.mp m with m | m
  · exact h c m
  · exact g c m
theorem one_asc {c : Nat} (h : c < 128) : Asc ⟨#[c]⟩ := by
  intro d m
  have m' : d ∈ [c] := m
  rw [List.mem_singleton.mp m']
  exact h
theorem cutS_asc {z : Str} (h : Asc z) (lo hi : Option Int) : Asc (cutS z lo hi) := by
  intro c m
  have m' : c ∈ (((z.cps.toList.drop (HT.sIx z.length 0 lo)).take (HT.sIx z.length z.length hi - HT.sIx z.length 0 lo)).toArray).toList := m
  rw [List.toList_toArray] at m'
  exact h c (List.mem_of_mem_drop (List.mem_of_mem_take m'))
theorem num_asc (n : Nat) (h : n < 10 ^ 6) : Asc (Str.ofString (toString ((n : Nat) : Int))) ∧ (Str.ofString (toString ((n : Nat) : Int))).length ≤ 6 := by
  constructor
  · intro c m
    have m' : c ∈ TL.numL n := by rw [← TL.tl_num n]; exact m
    have := TL.numL_digits n c m'
    omega
  · have e : (Str.ofString (toString ((n : Nat) : Int))).cps.toList = TL.numL n := TL.tl_num n
    show (Str.ofString (toString ((n : Nat) : Int))).cps.toList.length ≤ 6
    rw [e]
    exact TL.numL_len (by decide) h
theorem log_small {n : Nat} (h : n < 10 ^ 101) : ((n : Nat) : Int).natAbs.log2 < 1920 := by
  rw [Int.natAbs_natCast]
  have : n.log2 ≤ 1919 := PySem.W.mg_log (Nat.lt_of_lt_of_le h (by decide +kernel))
  omega
theorem key_split : Txt.split (("option on off var round end set if else when draw first second show both pay take pick mod player keep lot" : Str) ++ (" while answer view long" : Str)) (" " : Str) = keyL := by decide +kernel
theorem join_signs : ∀ cs : List Nat, (Txt.join ("" : Str) (cs.map fun x => (⟨#[x]⟩ : Str))).cps.toList = cs := by
  have h : ∀ cs : List Nat, (Str.join ("" : Str) (cs.map fun x => (⟨#[x]⟩ : Str))).cps.toList = cs := by
    intro cs
    induction cs with
    | nil => rfl
    | cons a r ih =>
      cases r with
      | nil => rfl
      | cons b r =>
        show (((⟨#[a]⟩ : Str) ++ ("" : Str)) ++ Str.join ("" : Str) ((b :: r).map fun x => (⟨#[x]⟩ : Str))).cps.toList = a :: b :: r
        have e : ((((⟨#[a]⟩ : Str) ++ ("" : Str)) ++ Str.join ("" : Str) ((b :: r).map fun x => (⟨#[x]⟩ : Str))).cps.toList) = a :: (Str.join ("" : Str) ((b :: r).map fun x => (⟨#[x]⟩ : Str))).cps.toList := by
          show ((#[a] ++ ("" : Str).cps) ++ (Str.join ("" : Str) ((b :: r).map fun x => (⟨#[x]⟩ : Str))).cps).toList = _
          rw [Array.toList_append, Array.toList_append]
          rfl
        rw [e, ih]
  intro cs
  show (Builtin.Str.glued _ _).cps.toList = cs
  rw [StrLaws.glued_eq_join]
  exact h cs
theorem sum_signs (cs : List Nat) : ((cs.map fun x => (⟨#[x]⟩ : Str)).map (·.length)).sum = cs.length := by
  rw [List.map_map]
  induction cs with
  | nil => rfl
  | cons y r ih =>
    rw [List.map_cons, List.sum_cons, ih, List.length_cons]
    show 1 + r.length = r.length + 1
    omega
theorem ge1 {a b : Nat} : ((!decide ((⟨#[a]⟩ : Str).cps.toList < (⟨#[b]⟩ : Str).cps.toList)) = true) ↔ b ≤ a := by
  rw [Bool.not_eq_true', decide_eq_false_iff_not, lt1]
  omega

/-! ### names that the law draws -/
def kwL : List Str := ["option", "on", "off", "var", "round", "end", "set", "if", "else", "when", "draw", "first", "second", "show", "both", "pay", "take", "pick", "mod", "player", "keep", "lot", "while", "answer", "view", "long"]
theorem kw_split : Txt.split (("option on off var round end set if else when draw first second show both pay take pick mod player keep lot" : Str) ++ (" while answer view long" : Str)) (" " : Str) = kwL := by decide +kernel
def LetC (c : Nat) : Prop := 97 ≤ c ∧ c ≤ 122
def NmC (c : Nat) : Prop := LetC c ∨ (48 ≤ c ∧ c ≤ 57)
def NmF (x : Str) : Prop := ∃ c r, x.cps.toList = c :: r ∧ LetC c ∧ (∀ d ∈ r, NmC d) ∧ r.length ≤ 11
/-- a name -/
def Nm (x : Str) : Prop := NmF x ∧ x ∉ kwL
theorem NmF.lt {x : Str} (h : NmF x) : ∀ c ∈ x.cps.toList, c < 128 := by
  obtain ⟨c, r, e, h1, h2, _⟩ := h
  intro d m
  rw [e] at m
  rcases List.mem_cons.mp m with rfl | m
  · have := h1.2
    omega
  · rcases h2 d m with h | h
    · have := h.2
      omega
    · omega
theorem NmF.ok {x : Str} (h : NmF x) : PyData.strOk x = true := by
  unfold PyData.strOk
  rw [Array.all_eq_true_iff_forall_mem]
  intro c m
  have := h.lt c (Array.mem_toList_iff.mpr m)
  simp
  omega
theorem NmF.len {x : Str} (h : NmF x) : x.length ≤ 12 := by
  obtain ⟨c, r, e, _, _, h3⟩ := h
  show x.cps.toList.length ≤ 12
  rw [e, List.length_cons]
  omega
theorem app_cps (a b : Str) : (a ++ b).cps.toList = a.cps.toList ++ b.cps.toList := by
  show (a.cps ++ b.cps).toList = _
  simp
def vS (k : Nat) : Str := ("v" : Str) ++ Str.ofString (toString ((k : Nat) : Int))
theorem vS_cps (k : Nat) : (vS k).cps.toList = 118 :: TL.numL k := by
  unfold vS
  have e : (Str.ofString (toString ((k : Nat) : Int))).cps.toList = TL.numL k := TL.tl_num k
  rw [app_cps, e]
  rfl
theorem vS_nm {k : Nat} (h : k < 20) : Nm (vS k) := by
  refine ⟨⟨118, TL.numL k, vS_cps k, ⟨by decide, by decide⟩, fun d m => .inr (TL.numL_digits k d m), ?_⟩, ?_⟩
  · have := TL.numL_len (n := k) (k := 2) (by decide) (by omega)
    omega
  · have : (List.range 20).all (fun k => decide (vS k ∉ kwL)) = true := by decide +kernel
    exact of_decide_eq_true (List.all_eq_true.mp this k (List.mem_range.mpr h))
theorem nodup_le {α : Type} [DecidableEq α] : ∀ {l ts : List α}, l.Nodup → (∀ x ∈ l, x ∈ ts) → l.length ≤ ts.length
  | [], _, _, _ => Nat.zero_le _
  | a :: r, ts, nd, h => by
    rw [List.nodup_cons] at nd
    have ih := nodup_le (l := r) (ts := ts.erase a) nd.2 fun x m => (List.mem_erase_of_ne (fun e => nd.1 (by rw [← e]; exact m))).mpr (h x (List.mem_cons_of_mem _ m))
    have ma := h a List.mem_cons_self
    rw [List.length_erase_of_mem ma] at ih
    have : 0 < ts.length := List.length_pos_of_mem ma
    rw [List.length_cons]
    omega
theorem vS_free {ts : List Str} (h : ts.length < 20) : ¬ ∀ k, k < 20 → vS k ∈ ts := fun z => by
  have nd : ((List.range 20).map vS).Nodup := by decide +kernel
  have := nodup_le nd fun x m => by
    obtain ⟨k, mk, rfl⟩ := List.mem_map.mp m
    exact z k (List.mem_range.mp mk)
  rw [List.length_map, List.length_range] at this
  omega
def ldN : Str := "abcdefghijklmnopqrstuvwxyz0123456789"
theorem ld_let {r : Int} (h0 : 0 ≤ r) (h1 : r < 26) : ∃ c, atI ldN.cps.toList r = some c ∧ LetC c := by
  have hl : ldN.cps.toList.length = 36 := by decide +kernel
  have hlt : r.toNat < ldN.cps.toList.length := by omega
  refine ⟨ldN.cps.toList[r.toNat], at_ofG (j := r.toNat) (by omega) (List.getElem?_eq_getElem hlt), ?_⟩
  have : (List.range 26).all (fun i => decide (97 ≤ ldN.cps.toList.getD i 0 ∧ ldN.cps.toList.getD i 0 ≤ 122)) = true := by decide +kernel
  have := of_decide_eq_true (List.all_eq_true.mp this r.toNat (List.mem_range.mpr (by omega)))
  rw [List.getD_eq_getElem?_getD, List.getElem?_eq_getElem hlt] at this
  exact this
theorem ld_nm {r : Int} (h0 : 0 ≤ r) (h1 : r < 36) : ∃ c, atI ldN.cps.toList r = some c ∧ NmC c := by
  have hl : ldN.cps.toList.length = 36 := by decide +kernel
  have hlt : r.toNat < ldN.cps.toList.length := by omega
  refine ⟨ldN.cps.toList[r.toNat], at_ofG (j := r.toNat) (by omega) (List.getElem?_eq_getElem hlt), ?_⟩
  have : (List.range 36).all (fun i => decide ((97 ≤ ldN.cps.toList.getD i 0 ∧ ldN.cps.toList.getD i 0 ≤ 122) ∨ (48 ≤ ldN.cps.toList.getD i 0 ∧ ldN.cps.toList.getD i 0 ≤ 57))) = true := by decide +kernel
  have := of_decide_eq_true (List.all_eq_true.mp this r.toNat (List.mem_range.mpr (by omega)))
  rw [List.getD_eq_getElem?_getD, List.getElem?_eq_getElem hlt] at this
  exact this
theorem inV_strs {x : Str} : ∀ {l : List Str}, inV (.str x) (l.map V.str) = decide (x ∈ l)
  | [] => by simp [inV]
  | y :: r => by
    have ih := inV_strs (x := x) (l := r)
    unfold inV at ih ⊢
    rw [List.map_cons, List.any_cons, ih]
    have e : eqV (V.str y) (V.str x) = decide (x = y) := by
      show (y == x) = _
      by_cases h : x = y
      · rw [decide_eq_true h, h]
        exact beq_self_eq_true y
      · rw [decide_eq_false h]
        exact beq_eq_false_iff_ne.mpr fun z => h z.symm
    rw [e]
    by_cases h1 : x = y <;> by_cases h2 : x ∈ r <;> simp [h1, h2]
/-- the last one of v0 to v19 that is free -/
def VW (ts : List Str) (x0 : Str) (i : Nat) (x : Str) : Prop := (Nm x ∧ x ∉ ts) ∨ (x = x0 ∧ ∀ k, k < i → vS k ∈ ts)
theorem VW.next {ts : List Str} {x0 x : Str} {i : Nat} (h : VW ts x0 i x) (m : vS i ∈ ts) : VW ts x0 (i + 1) x := by
  rcases h with h | ⟨e, h⟩
  · exact .inl h
  · refine .inr ⟨e, fun k z => ?_⟩
    by_cases c : k = i
    · rw [c]
      exact m
    · exact h k (by omega)
theorem VW.fin {ts : List Str} {x0 x : Str} (h : VW ts x0 20 x) (l : ts.length < 20) : Nm x ∧ x ∉ ts := by
  rcases h with h | ⟨_, h⟩
  · exact h
  · exact absurd h (vS_free l)
theorem vS_val (i : Nat) : ("v" : Str) ++ Str.ofString (toString (0 + (i : Int))) = vS i := by
  rw [Int.zero_add]
  rfl
theorem not_in {x : Str} {l : List Str} (c : (!inV (.str x) (l.map V.str)) = true) : x ∉ l := by
  rw [inV_strs] at c
  exact fun m => by
    rw [decide_eq_true m] at c
    cases c
theorem is_in {x : Str} {l : List Str} (c : ¬ (!inV (.str x) (l.map V.str)) = true) : x ∈ l := by
  rw [inV_strs] at c
  exact Decidable.byContradiction fun m => c (by rw [decide_eq_false m]; rfl)
theorem inv_t {x : Str} {l : List Str} (c : inV (.str x) (l.map V.str) = true) : x ∈ l := by
  rw [inV_strs] at c
  exact of_decide_eq_true c
theorem inv_f {x : Str} {l : List Str} (c : ¬ inV (.str x) (l.map V.str) = true) : x ∉ l := by
  rw [inV_strs] at c
  exact fun m => c (decide_eq_true m)

section
open NdefX PySem.Calls
/-- the wrapper of ValueError.__init__ is called on an exception in the making -/
theorem mw_run {X : Cx} {pins : List (Addr × Obj)} {σ : L2.St} {H : Hp} {s : Shared} {E : Value → Shared → Prop} {u x C : Addr} {us : List Value} {Q : Value → Shared → Prop} (T : OexC X.K C) (I : Inv X pins σ H s) (e : H x = some (exo x C none))
    (hu : s.heap.get? u = some (PySem.W.kxs_mw "ValueError.__init__" x)) (hl : us.length ≤ sizeLine) (h : ∀ s', Inv X pins σ H s' → Q .none s') : wpAny (model X.prog X.w) X.A (call (.ref u) us) Q E s := by
  obtain ⟨nm, q, N, bs, bm, sn, sub, ab, col, dd, k0, k1, k2, k3, k5, hC, hbm⟩ := T.cls
  obtain ⟨t1, ho⟩ := exo_at I.hok e
  obtain ⟨hp, g, d, t, os⟩ := s
  refine wpAny_call (codeAny_of_tree ?_)
  show wpAny _ X.A.in1 (callAny (.ref u) ⟨us, []⟩) _ _ _
  simp only [callAny]
  refine wpAny_bind (wpAny_load hu ?_)
  have nz : (Value.type "method-wrapper" == Value.type "method" || Value.type "method-wrapper" == Value.type "builtin_function_or_method" || Value.type "method-wrapper" == Value.type "method-wrapper") = true := by decide
  simp only [PySem.W.kxs_mw, nz, if_true]
  refine PySem.W.KFB.if_so (by decide) ?_
  have fb := F.excBase_ValueError
  refine wpAny_bind (PySem.W.check_bound_init fb.toExcCallFacts (I.kIn _ _ hC) ho rfl ?_)
  refine wpAny_bind (wpAny_pure (wpAny_pure ⟨plainId_quiet fb.init.plain _, codeAny_builtin fb.initEntry ?_⟩))
  rw [Around.under_plainId fb.init.plain _]
  refine PySem.W.exc_init_tree (cls := .ref C) (t0 := t1) (dv := none) (c2 := .none) (c3 := .none) (b4 := .bool false) ho hl fun h' k hx _ => ?_
  have J := I.write (t' := t) (x := x) (e := x) (o := exo x C none) (by rw [e]; exact True.intro) (.inl rfl) k ⟨_, hx⟩ (exo_ok hx)
  have eu : upd H x (exo x C none) = H := funext fun b => by
    by_cases hb : b = x
    · rw [hb, upd_same, e]
    · rw [upd_ne hb]
  rw [eu] at J
  exact h _ J
theorem mw_with {M : Model} {A : Around} {E : Value → Shared → Prop} {s : Shared} {i : String} {u x : Addr} {pos : Pos} {env : Env} {e : Expr} {rest : List Expr} {Q : Value → Shared → Prop}
    (h : wpAny M A (spliced (backTo pos (starEach (e :: rest) env))) (fun vs s₁ => PySem.W.KxsAt i u x s₁.heap ∧ wpAny M A (call (.ref u) vs) Q E s₁) E s)
    (he : starEach (e :: rest) env = (false, eval e env) :: starEach rest env) (hpl : (backTo pos (starEach rest env)).any (·.1) = false) :
    wpAny M A (callWith pos (.ref u) [] (backTo pos (starEach (e :: rest) env)) []) Q E s := by
  rw [he] at h ⊢
  exact PySem.W.kxs_callWith (i := i) (x := x) (by show (false || (backTo pos (starEach rest env)).any (·.1)) = false; rw [hpl]; rfl) (evalArgs_plain h)

/-- a def of a class's body that begins with super().__init__(e ..), then goes on; the class at C closes over it by the cell at cc -/
theorem fn_super {CX : CXT} {P : Program} {w : World} {K : PySem.W.Frag} {mg : Str → Option Value} {base : Heap} {k : Nat} {f cc C cda : Addr} {name qual : Str} {params : Arguments} {scope : Scope} {dV kV doc pm ct oc cl ccl : Value} {an od cld cdd : Option Addr}
    {osl csl ccs : Array (Option Value)} {N ps : List Str} {sp : Sp} {e : Expr} {es : List Expr} {rest : List Stmt} {p0 p1 p2 p3 p4 : Pos} {vs2 : Array Value} {file : Str} {tf : Tok} {ar : Arg}
    (lk : K.lookup f = some ⟨oc, od, .func (PySem.W.ksFn name qual params (.Expr (.Call (.Attribute (.Call (.Name "super" p0) [] [] p1) "__init__" p2) (e :: es) [] p3) p4 :: rest) scope dV kV doc pm an (.ref cda) ct cc), osl⟩)
    (hcd : PySem.W.codeIn K (.ref cda) qual = true) (hcode : K.lookup cda = some ⟨ccl, cdd, .fields vs2, ccs⟩) (hvs : vs2[2]? = some (.str file tf)) (hfile : ((P.main.file : Str) == file) = true)
    (hcell : K.lookup cc = some ⟨cl, cld, .cell (some (.ref C)), csl⟩) (T : OexC K C) (hsup : PySem.W.ks_superIn K C C "__init__" = some (some (.builtin "ValueError.__init__")))
    (hB : PySem.W.subIn K (.ref C) (.type "ValueError") = some true) (hself : PySem.W.mroIn K C (.ref C) = some true) (hop : PySem.W.nsIn K cStatics "thirdparty.any" = some none)
    (hsn : mg "super" = none) (htop : (P.main.scope.names.lookup ("super" : Str)).isSome = false) (hp : (params.posonlyargs ++ params.args).head? = some ar) (hps : ps[0]? = some ar.arg)
    (S : NScope N ps ["__class__"] scope) (hks : scope.names.lookup ("super" : Str) = some .globalImplicit) (len : ∀ vs H Q E, sp vs H Q E → vs.length = ps.length)
    (hbody : ∀ (A : Around) (outer : List Env) (s : Shared) (H : Hp) (vs : List V) (Q : VK) (E : XK), Room k (A.deeper (envF ⟨name, qual, params, .Expr (.Call (.Attribute (.Call (.Name "super" p0) [] [] p1) "__init__" p2) (e :: es) [] p3) p4 :: rest, scope, [("__class__", cc)], cda⟩ f s.heap.objs.size)) → sp vs H Q E →
      ∃ ta t x, PA (ncx CX P w K mg base N ⟨name, qual, params, .Expr (.Call (.Attribute (.Call (.Name "super" p0) [] [] p1) "__init__" p2) (e :: es) [] p3) p4 :: rest, scope, [("__class__", cc)], cda⟩ f A outer s H E) (e :: es) ta ∧
        PSs (ncx CX P w K mg base N ⟨name, qual, params, .Expr (.Call (.Attribute (.Call (.Name "super" p0) [] [] p1) "__init__" p2) (e :: es) [] p3) p4 :: rest, scope, [("__class__", cc)], cda⟩ f A outer s H E) rest t ∧
        vs[0]? = some (.ref x) ∧ H x = some (exo x C none) ∧
        ta (startF N vs [none]) H fun ws H1 => ws.length ≤ 1000 ∧ H1 x = some (exo x C none) ∧ t { nx := fun _ H' => Q .non H', rt := Q } (startF N vs [none]) H1)
    (he : ∀ env : Env, starEach (e :: es) env = (false, eval e env) :: starEach es env) (hpl : ∀ env : Env, (backTo p3 (starEach es env)).any (·.1) = false)
    (hev : ∀ env : Env, ∃ pl : Sem Bool, eval (.Call (.Attribute (.Call (.Name "super" p0) [] [] p1) "__init__" p2) (e :: es) [] p3) env = (do
      let ov ← attributeBase (.Call (.Name "super" p0) [] [] p1) "__init__" env (eval (.Call (.Name "super" p0) [] [] p1) env)
      standAt p2.atName
      let (f, first) ← holding [ov] (getMethod ov "__init__" pl)
      callWith p3 f first (backTo p3 (starEach (e :: es) env)) []))
    (hsw : ∀ env : Env, swapsWith (.Call (.Attribute (.Call (.Name "super" p0) [] [] p1) "__init__" p2) (e :: es) [] p3) none p4.line env = pure false) :
    FnOk P w K mg base CX (k + 1) f (PySem.W.ksFn name qual params (.Expr (.Call (.Attribute (.Call (.Name "super" p0) [] [] p1) "__init__" p2) (e :: es) [] p3) p4 :: rest) scope dV kV doc pm an (.ref cda) ct cc) ps sp := by
  generalize hbd : (Stmt.Expr (.Call (.Attribute (.Call (.Name "super" p0) [] [] p1) "__init__" p2) (e :: es) [] p3) p4 :: rest) = bd at lk hbody ⊢
  refine ⟨len, fun A outer s H args us vs Q E hr e0 hb r hsp => ?_⟩
  have KX : K.In s.heap := e0.mod.kin.keeps fun b o e => (e0.bs b o e).1
  have hl := len _ _ _ _ hsp
  have lim : s.heap.NoLimit := e0.mod.nolimit.keeps fun b o e => (e0.bs b o e).1
  obtain ⟨ta, t, x, hta, ht, hv0, hx, hq⟩ := hbody A outer s H vs Q E (hr.deeper _) hsp
  have hself0 : scope.names.lookup ar.arg = some .local := S.par _ (List.mem_of_getElem? hps)
  refine PySem.ks_codeAny_call_defAt (fd := PySem.W.ksFn name qual params bd scope dV kV doc pm an (.ref cda) ct cc) hr.depth (KX _ _ lk) rfl lim (PySem.W.codeRec_of KX hcd) rfl hb S.nocell (fun ⟨n, _⟩ hy => S.par n (List.of_mem_zip hy).1) (fun h₁ hns kp => ?_) S.co S.gen S.kind
  have cin := e0.mod.kin _ _ hcell
  have Cc : CellsAt [(("__class__" : Str), cc)] ["__class__"] [none] s.heap H := by
    have lkc : ∀ (y : Str) (c : Addr), List.lookup y [(("__class__" : Str), cc)] = some c → y = "__class__" ∧ c = cc := fun y c z => by
      simp only [List.lookup] at z
      split at z
      · rename_i g
        exact ⟨by simpa using g, (Option.some.inj z).symm⟩
      · cases z
    refine ⟨rfl, fun y c z => ?_, fun y z c h1 h2 => (lkc y c h1).1.trans (lkc z c h2).1.symm, fun i y hi => ?_⟩
    · obtain ⟨_, rfl⟩ := lkc y c z
      exact ⟨(e0.bs _ _ cin).2, _, _, (e0.bs _ _ cin).1, rfl⟩
    · cases i with
      | zero =>
        obtain rfl : "__class__" = y := Option.some.inj hi
        exact ⟨cc, by simp [List.lookup], fun v z => by cases z⟩
      | succ i => simp at hi
  have I : Inv (ncx CX P w K mg base N ⟨name, qual, params, bd, scope, [("__class__", cc)], cda⟩ f A outer s H E) [] (startF N vs [none]) H { s with heap := h₁, toks := s.toks + (ps.zip us).length } :=
    inv_startN S hr.hd e0 hl r Cc hns kp
  subst hbd
  have Xk : K.In h₁ := I.kIn
  obtain ⟨ux, hux, rvx⟩ := r.get hv0
  obtain rfl : ux = Value.ref x := rvx
  have hkc : scope.names.lookup ("__class__" : Str) = some .free := S.frk _ (List.mem_singleton.mpr rfl)
  obtain ⟨nm, q, Nn, bs, bm, sn, sub, ab, col, dd, k0, k1, k2, k3, k5, hC, hbm⟩ := id T.cls
  have hcl : PySem.W.clsIn K C = some { name := nm, bases := bs, mro := .ref C :: bm, ns := Nn, qualname := q, hasDict := true, slotNames := sn, subclasses := sub, abstract := ab, collection := col, hasDel := false } := by unfold PySem.W.clsIn; rw [hC] <;> rfl
  obtain ⟨t1, ho⟩ := exo_at I.hok hx
  refine PySem.ks_wpAt_execs_cons (PySem.ks_wpAt_Expr_any ?_ (by show (scope.kind == .module && _) = false; rw [S.kind]; rfl) (hsw _))
  obtain ⟨pl, hev⟩ := hev (PySem.W.ksEnv qual scope s.heap.objs.size f (.ref cda) cc)
  refine PySem.ks_wpAt_MethodCall (pl := pl) ?_ hev
  refine PySem.ks_wpAt_super_base hks hkc rfl rfl (Xk _ _ lk) rfl hp rfl (Xk _ _ hcode) rfl hvs hfile htop ?_
  obtain ⟨mb, b1, b2⟩ := I.mod.blt
  refine PySem.W.ks_loadName_global S.kind hks (Calls.loadGlobal_builtin (I.mod.glob.keeps I.bk) hsn (b1.keeps I.bk) ((b2 "super" (by decide)).trans (by first | rfl | kernel_rfl | decide +kernel)) ⟨rfl, ?_⟩)
  refine wpAny_loadName_free S.kind hkc rfl ⟨_, Xk _ _ hcell, rfl⟩ ?_
  refine wpAny_loadName_local S.kind hself0 hns (v := .ref x) (zip_look ?nd hps hux) ?_
  case nd =>
    have z := S.nd.sublist (List.take_sublist (ps.length + 1) N)
    rw [show N.take (ps.length + 1) = ps ++ [("__class__" : Str)] from S.pre] at z
    exact (List.nodup_append.mp z).1
  refine PySem.ks_wpAny_isType_cls (Xk _ _ hC) rfl ⟨rfl, ?_⟩
  refine PySem.ks_wpAny_call_super (Xk _ _ hC) rfl ho rfl (fun c z => by cases z) (PySem.W.looks_mroIn Xk hself) (fun h2 e2 kp2 => ?_)
  have I2 := I.kept (t' := s.toks + (ps.zip us).length) kp2
  obtain ⟨t2, ho2⟩ := exo_at I2.hok hx
  have X2 : K.In h2 := I2.kIn
  have inst : PySem.W.InstAt h2 x ({ cls := .ref C, dict := none, data := .fields #[.ref t2, .none, .none, .none, .bool false, .none] } : Obj) C none := ⟨ho2, rfl, rfl, trivial⟩
  refine PySem.W.kxs_getMethod PySem.W.kxs_ValueError e2 (PySem.W.looks_opaque X2 hop) (l₀ := .ref C :: bm) ((PySem.W.looks_clsIn X2 hcl).andThen .now) (l := ((Value.ref C :: bm).dropWhile (· != .ref C)).drop 1) rfl X2 ?_ (inst.type.andThen (PySem.W.looks_subIn X2 hB)) ?_ (by rfl) ?_
  · unfold PySem.W.ks_superIn at hsup
    rw [hcl] at hsup
    exact hsup
  · exact PySem.W.ks_ne X2 inst hcl
  have up : ∀ b u, h2.get? b = some u → (h2.push (PySem.W.kxs_mw "ValueError.__init__" x)).get? b = some u := fun b u z => Heap.get?_push_of_some _ z
  have I3 := I2.kept (h' := h2.push (PySem.W.kxs_mw "ValueError.__init__" x)) (t' := s.toks + (ps.zip us).length + 1) up
  have hget : (h2.push (PySem.W.kxs_mw "ValueError.__init__" x)).get? h2.objs.size = some (PySem.W.kxs_mw "ValueError.__init__" x) := Heap.get?_push_size _ rfl
  have I4 := I3.pins_of (pins' := [(h2.objs.size, PySem.W.kxs_mw "ValueError.__init__" x)]) fun p hp => by
    obtain rfl := List.mem_singleton.mp hp
    exact ⟨hget, I2.hok.fresh (Nat.le_refl _), Nat.ne_of_gt I2.lt, I2.nofs (Nat.le_refl _), fun v z => by cases z⟩
  refine mw_with (i := "ValueError.__init__") (x := x) ?_ (he _) (hpl _)
  refine thn (hta.run p3 _ _ (startF N vs [none]) H _ I4 hq) fun ws s5 hh => ?_
  obtain ⟨vs5, H5, I5, r5, l5, hx5, q5⟩ := hh
  refine ⟨(I5.pin (h2.objs.size, PySem.W.kxs_mw "ValueError.__init__" x) (List.mem_append_right _ (List.mem_singleton.mpr rfl))).1, ?_⟩
  refine mw_run T I5 hx5 ((I5.pin (h2.objs.size, PySem.W.kxs_mw "ValueError.__init__" x) (List.mem_append_right _ (List.mem_singleton.mpr rfl))).1) (by rw [← Paired.length r5, sizeLine_eq]; omega) fun s6 I6 => ?_
  refine PySem.wpAt_of_wpAny (wpAny_mono (ht.run _ s6 (startF N vs [none]) H5 _ I6 q5) (fun fl s7 hs => ?_) fun e s7 hs => hs)
  have fin : ∀ {σ' : L2.St} {H' : Hp} {v : V} {u : Value} {pp : List (Addr × Obj)}, Inv (ncx CX P w K mg base N ⟨name, qual, params, Stmt.Expr (.Call (.Attribute (.Call (.Name "super" p0) [] [] p1) "__init__" p2) (e :: es) [] p3) p4 :: rest, scope, [("__class__", cc)], cda⟩ f A outer s H E) pp σ' H' s7 → L2.RelV v u → Q v H' → CE outer P w H s Q u s7 :=
    fun J rv q => ⟨_, _, J.os, J.bare, J.base, J.hok, rv, q⟩
  cases fl with
  | ret u => obtain ⟨v, σ', H', J, rv, q⟩ := hs; exact fin J rv q
  | next => obtain ⟨σ', H', J, q⟩ := hs; exact fin (v := V.non) (u := Value.none) J rfl q
  | brk => obtain ⟨_, _, _, q⟩ := hs; exact q.elim
  | cont => obtain ⟨_, _, _, q⟩ := hs; exact q.elim
end

/-! ### an own class of errors with one field -/
structure ErrC (K : PySem.W.Frag) (C a : Addr) (st : Stmt) (qual fld : Str) (fd : FuncData) : Prop where
  ox : OexC K C
  xf : XfC K C
  no : PySem.W.findIn K (.ref C) fld = some none
  ini : PySem.W.findIn K (.ref C) "__init__" = some (some (.ref a))
  ty : PySem.W.typeIn K (.ref a) = some (.type "function")
  fn : ∃ (oc kV doc pm ct ccl cl : Value) (od an cdd cld : Option Addr) (cda cc : Addr) (osl ccs csl : Array (Option Value)) (vs2 : Array Value) (tf : Tok), fd = PySem.W.ksFn "__init__" qual (defArgs st) (defBody st) (defScope st) .none kV doc pm an (.ref cda) ct cc ∧
    K.lookup a = some ⟨oc, od, .func fd, osl⟩ ∧ PySem.W.codeIn K (.ref cda) qual = true ∧ K.lookup cda = some ⟨ccl, cdd, .fields vs2, ccs⟩ ∧ vs2[2]? = some (.str "/claim/cut.py" tf) ∧ K.lookup cc = some ⟨cl, cld, .cell (some (.ref C)), csl⟩ ∧
    PySem.W.ks_superIn K C C "__init__" = some (some (.builtin "ValueError.__init__")) ∧ PySem.W.subIn K (.ref C) (.type "ValueError") = some true ∧ PySem.W.mroIn K C (.ref C) = some true ∧ PySem.W.nsIn K cStatics "thirdparty.any" = some none
/-- the program's file, and that its top has no name super -/
class PrOk (P : Program) : Prop where
  file : ((P.main.file : Str) == "/claim/cut.py") = true
  top : (P.main.scope.names.lookup ("super" : Str)).isSome = false
section
variable {CX : CXT} {P : Program} {w : World} {K : PySem.W.Frag} {mg : Str → Option Value} {base : Heap} {N : List Str} {qual : Str} {scope : Scope} {f : Addr} {cd : Value} {A : Around} {outer : List Env} {s : Shared} {H : Hp} {E : XK}
instance [h : PrOk P] : PrOk (cxOf CX P w K mg base N qual scope f cd A outer s H E).prog := h
instance {X : Cx} [h : PrOk X.prog] : PrOk X.nox.prog := h
instance {X : Cx} [h : PrOk X.prog] {pn : List (Addr × Obj)} {xe : Value → Shared → Prop} : PrOk (X.tr pn xe).prog := h
instance {X : Cx} [h : PrOk X.prog] {a : Addr} {pn : List (Addr × Obj)} : PrOk (X.suite a pn).prog := h
end
/-- X.__init__(self, v) -/
def spErr (C : Addr) (fld : Str) (ok : V → Prop) : Sp := fun vs H Q _ => ∃ x v, vs = [.ref x, v] ∧ H x = some (exo x C none) ∧ ok v ∧ ∀ dx, H dx = none → dx ≠ x → Q .non (upd (upd H dx (exd dx [(fld, v)])) x (exo x C (some dx)))
/-- what raise X(v) asks -/
theorem raise_ok {C : Addr} {fld : Str} {ok : V → Prop} {H1 : Hp} {v : V} {Q : XK} (hv : ok v) (k : ∀ d H', Same H1 H' → H1 d = none → H' d = some (.xd [(fld, v)]) → Q (.ref C) (some d) H') :
    [v].length ≤ 1000 ∧ ∀ a, H1 a = none → spErr C fld ok (.ref a :: ([v] ++ [])) (upd H1 a (exo a C none))
      (fun w H2 => w = .non ∧ ∃ (d : Addr) (fs : List (Str × V)), H2 a = some (exo a C (some d)) ∧ H2 d = some (exd d fs) ∧ H1 d = none ∧ Q (.ref C) (some d) (upd (del H2 a) d (.xd fs))) (fun _ _ _ => False) := by
  refine ⟨by show 1 ≤ 1000; decide, fun a na => ⟨a, v, rfl, upd_same, hv, fun dx nd ne => ⟨rfl, dx, [(fld, v)], upd_same, ?_, ?_, ?_⟩⟩⟩
  · rw [upd_ne ne, upd_same]
  · rw [upd_ne ne] at nd
    exact nd
  · have nd1 : H1 dx = none := by rw [upd_ne ne] at nd; exact nd
    refine k dx _ (fun b o e => ?_) nd1 upd_same
    have b1 : b ≠ dx := ne_of_none e nd1
    have b2 : b ≠ a := ne_of_none e na
    rw [upd_ne b1, del_ne b2, upd_ne b2, upd_ne b1, upd_ne b2]
    exact e
/-! ### try .. except x as n .. else -/
section
variable {X : Cx} {x n : Str} {c : Value} {i : Nat} {body suite orelse : List Stmt} {b1 : Stmt} {q1 q2 q3 : Pos} {tb : WX → TS} {ts : Addr → Value → Option Addr → TS} {Wout : WX} {u : TS}
def tTryE (K : PySem.W.Frag) (c : Value) (i : Nat) (tb : WX → TS) (ts : Addr → Value → Option Addr → TS) (Wout : WX) (u : TS) : TS := fun D σ H => tb (wAs K c i ts Wout D) { D with nx := u D } σ H
theorem ps_try_asE (ho : PSs X orelse u) (hs : X.stack = X.env :: X.outer) (hf : X.env.frame = some X.env.locals) (hN : X.N.Nodup) (hi : X.N[i]? = some n) (hl : X.env.kindOf n = some .local) (hc : Names X x c) (tk : Takes X Wout)
    (hb : ∀ (W : WX) (pn : List (Addr × Obj)) (xe : Value → Shared → Prop), Takes (X.tr pn xe) W → PassesOwn (model X.prog X.w) X.A X.env xe → PSs (X.tr pn xe) body (tb W))
    (hsu : ∀ (a : Addr) (oe : Obj) (cls : Value) (d : Option Addr) (pn : List (Addr × Obj)), Zc cls d oe → (∃ vs, oe.data = .fields vs) → PSs (X.suite a ((a, oe) :: pn)) (b1 :: suite) (ts a cls d)) :
    PS X (.Try body [.ExceptHandler (some (.Name x q1)) (some n) (b1 :: suite) q2] orelse [] q3) (tTryE X.K c i tb ts Wout u) := by
  -- without else first: what the clause does with an exception of the body
  refine ⟨fun pins s σ H D I h => wpAny_Try_except ?_⟩
  have ok := I.ok
  have afr : X.A.frames = some (X.env :: X.outer) := by rw [ok.frames, hs]
  let Ex : Value → Shared → Prop := fun e s₁ => wpAny (model X.prog X.w) X.A (noteFrame e X.env) (fun _ s₂ => wpAny (model X.prog X.w) X.A (setFlight e none) (fun _ s₃ => wpAny (model X.prog X.w) X.A (handleBy e X.env [.ExceptHandler (some (.Name x q1)) (some n) (b1 :: suite) q2]) (SP X pins D) X.xe s₃) X.xe s₂) X.xe s₁
  have catch_ : Takes (X.tr (X.pn ++ pins) Ex) (wAs X.K c i ts Wout D) := by
    rintro _ sh ⟨ea, G, sl, pp, τ, Hτ, cl, dd, rfl, Jt, nb, up, sky, na, os, ag, bo, hbo, hy, hn⟩
    have J := Jt.ofTry ok
    rw [show (X.tr (X.pn ++ pins) Ex).stack = X.env :: X.outer from hs] at sky
    refine Sky.land Zc.steady afr hf sky fun g3 f3 u3 => ?_
    have J3 := J.landed (s' := { sh with heap := g3 }) nb f3.1 (up.trans u3) os ag
    obtain ⟨ob, fv, eb, zb, db⟩ := f3.there
    have far : ea ∉ frs (X.env :: X.outer) := fun hm => by
      obtain ⟨_, o2, e2, k2⟩ := (show g3.FunFrames G (X.env :: X.outer) from f3.2.2.1).mem hm
      rw [eb] at e2
      cases e2
      exact k2 _ db
    have eL : ea ≠ X.env.locals := fun z => far (List.mem_filterMap.mpr ⟨X.env, .head _, by rw [hf, z]⟩)
    have eF : ea ∉ X.fs := fun hm => by
      obtain ⟨v, hv, q⟩ := List.mem_filterMap.mp hm
      exact far (List.mem_filterMap.mpr ⟨v, .tail _ hv, q⟩)
    have S3 := J3.suite eb db na eL eF
    refine wpAny_handleBy_cons (codeAny_handlers_test ?_) (fun q => by cases q)
    have tyE : PySem.W.Looks (model X.prog X.w) g3 (typeOf (.ref ea)) cl := fun _ _ _ _ kk q => wpAny_typeOf_ref (kk _ _ eb) (by rw [zb.1]; exact q)
    have isE := PySem.W.exm_one (M := model X.prog X.w) J3.kIn tyE hbo
    have named : ∀ {Q : Value → Shared → Prop} {E : Value → Shared → Prop}, Q c { sh with heap := g3 } → wpAny (model X.prog X.w) (X.A.mark (some (.ref ea))) (eval (.Name x q1) X.env) Q E { sh with heap := g3 } := fun q => by
      rcases hc with ⟨gl, dbg, hm | ⟨hm, hv, nn⟩⟩
      · exact ld_glob (X := X.suite ea ((ea, ob) :: (X.pn ++ pins))) S3 gl hm q dbg
      · exact ld_blt (X := X.suite ea ((ea, ob) :: (X.pn ++ pins))) S3 gl hm hv q nn dbg
    refine named (isE.here ?_)
    cases bo
    · refine wpAny_handleBy_nil ?_
      obtain ⟨_, _, _, oz, wz, tz, _, _, ez, _, dz, gz, _⟩ := id f3
      have up2 : wpAny (model X.prog X.w) X.A (setFlight (.ref ea) X.env.frame) (fun _ s4 => wpAny (model X.prog X.w) X.A (throw (.ref ea) : Sem Flow) (SP X pins D) X.xe s4) X.xe { sh with heap := g3 } := by
        rw [hf]
        exact HandSPX.setFlight_upZ f3 fun g4 h4 u4 => wpAny_throw (tk _ _ ⟨ea, G, sl, pins, τ, Hτ, cl, dd, rfl, J, nb, (up.trans u3).trans u4, .inr (.inr (by rw [hs]; exact h4)), na, os, ag, hn rfl⟩)
      unfold PySem.passOn
      refine wpAny_bind (wpAny_field ez dz gz ?_)
      rw [if_neg (show ¬ ((Value.ref tz == Value.none) = true) by simp)]
      first | exact wpAny_bind (wpAny_pure (wpAny_bind up2)) | exact wpAny_bind up2
    · refine codeAny_handlers_suite_as (HandSPX.lands_againZ f3 fun g4 f4 u4 => ?_)
      have J4 := J.landed (s' := { sh with heap := g4 }) nb f4.1 ((up.trans u3).trans u4) os ag
      obtain ⟨o4, v4, e4, z4, d4⟩ := f4.there
      refine store_ok (X := X.suite ea ((ea, o4) :: (X.pn ++ pins))) (v := .ref ea) (J4.suite e4 d4 na eL eF) hN hi (.inl hl) rfl (fun s5 S5 => ?_) (.inr hl)
      refine wpAny_mono ((hsu ea o4 cl dd (X.pn ++ pins) z4 ⟨_, d4⟩).run [] s5 _ Hτ _ S5 (hy rfl ea na)) (fun fl s6 hsp => ?_) fun _ _ z => z.elim
      cases fl
      case next => obtain ⟨_, _, S6, q6⟩ := hsp; exact gone_ok (S6.unsuite ok) hN hi hl fun s7 J7 => ⟨_, _, J7, q6⟩
      case brk => obtain ⟨_, _, S6, q6⟩ := hsp; exact gone_ok (S6.unsuite ok) hN hi hl fun s7 J7 => ⟨_, _, J7, q6⟩
      case cont => obtain ⟨_, _, S6, q6⟩ := hsp; exact gone_ok (S6.unsuite ok) hN hi hl fun s7 J7 => ⟨_, _, J7, q6⟩
      case ret w => obtain ⟨_, _, _, S6, r6, q6⟩ := hsp; exact gone_ok (S6.unsuite ok) hN hi hl fun s7 J7 => ⟨_, _, _, J7, r6, q6⟩
  refine wpAny_mono ((hb _ _ Ex catch_ PassesOwn.looking).run [] s σ H { D with nx := u D } (I.toTry _) h) (fun fl s1 hsp => ?_) fun _ _ z => z
  cases fl
  case next => obtain ⟨_, _, J, q⟩ := hsp; exact ho.run pins s1 _ _ D (J.ofTry ok) q
  case brk => obtain ⟨_, _, J, q⟩ := hsp; exact ⟨_, _, J.ofTry ok, q⟩
  case cont => obtain ⟨_, _, J, q⟩ := hsp; exact ⟨_, _, J.ofTry ok, q⟩
  case ret w => obtain ⟨_, _, _, J, r, q⟩ := hsp; exact ⟨_, _, _, J.ofTry ok, r, q⟩
end
section
variable {X : Cx} {x n : Str} {c : Value} {i : Nat} {body suite : List Stmt} {b1 : Stmt} {q1 q2 q3 : Pos} {tb : WX → TS} {ts : Addr → Value → Option Addr → TS} {Wout : WX}
def tTryA (K : PySem.W.Frag) (c : Value) (i : Nat) (tb : WX → TS) (ts : Addr → Value → Option Addr → TS) (Wout : WX) : TS := fun D σ H => tb (wAs K c i ts Wout D) D σ H
theorem ps_try_asN (hs : X.stack = X.env :: X.outer) (hf : X.env.frame = some X.env.locals) (hN : X.N.Nodup) (hi : X.N[i]? = some n) (hl : X.env.kindOf n = some .local) (hc : Names X x c) (tk : Takes X Wout)
    (hb : ∀ (W : WX) (pn : List (Addr × Obj)) (xe : Value → Shared → Prop), Takes (X.tr pn xe) W → PassesOwn (model X.prog X.w) X.A X.env xe → PSs (X.tr pn xe) body (tb W))
    (hsu : ∀ (a : Addr) (oe : Obj) (cls : Value) (d : Option Addr) (pn : List (Addr × Obj)), Zc cls d oe → (∃ vs, oe.data = .fields vs) → PSs (X.suite a ((a, oe) :: pn)) (b1 :: suite) (ts a cls d)) :
    PS X (.Try body [.ExceptHandler (some (.Name x q1)) (some n) (b1 :: suite) q2] [] [] q3) (tTryA X.K c i tb ts Wout) := ps_try_as hs hf hN hi hl hc tk hb hsu
end
/-! ### calls that may raise, wished for at the caller's slots -/
section
variable {X : Cx} {CX : CXT} {k : Nat} {f C : Addr} {fd : FuncData} {ps : List Str} {sp : Sp} {dvs : List V} {ds : List Value} {E : L2.St → XK} {x m : Str} {p pos apos : Pos} {e o : Expr} {es : List Expr} {ta : TE} {t : TA}
def tMethT (C : Addr) (m : Str) (sp : Sp) (dvs : List V) (E : L2.St → XK) (ta : TE) (t : TA) : TE := fun σ H Q => ta σ H fun x H1 => ∃ a dx fs, x = .ref a ∧ H1 a = some (.ins C dx fs) ∧ fs.lookup m = none ∧ t σ H1 fun vs H2 => sp (x :: (vs ++ dvs)) H2 Q (E σ)
theorem pe_methT {pl : Sem Bool} (he : PE X o ta) (c : Cls X.K C) (hm : Meth X.K C m f) (F : FnOk X.prog X.w X.K X.mg X.base CX k f fd ps sp) (hr : Room k X.A) (hb : Binds X.K fd ps ds) (hd : Vals dvs ds) (hx : ∀ σ, PassesAt CX X σ (E σ)) (ha : PA X (e :: es) t)
    (hst : starEach (e :: es) X.env = (false, eval e X.env) :: starEach es X.env := by rfl) (hpl : (backTo pos (starEach es X.env)).any (·.1) = false := by rfl)
    (ht : eval (.Call (.Attribute o m apos) (e :: es) [] pos) X.env = (eval o X.env >>= fun ov => standAt apos.atName >>= fun _ => holding [ov] (getMethod ov m pl) >>= fun z => callWith pos z.1 z.2 (backTo pos (starEach (e :: es) X.env)) (backToKw pos (keywordEach [] X.env))) := by rfl) :
    PE X (.Call (.Attribute o m apos) (e :: es) [] pos) (tMethT C m sp dvs E ta t) := by
  refine ⟨fun pins s σ H Q I h => PySem.W.methodCall_KW (pl := pl) (thn (he.run pins s σ H _ I h) fun w s1 hh => ?_) ht⟩
  obtain ⟨_, H1, I1, rx, a, dx, fs, rfl, ea, l, q⟩ := hh
  cases (show w = Value.ref a from rx)
  refine getmeth_ok I1 ea c hm l (PySem.W.callWith_K (first := [.ref a]) (h₀ := X.base) I.ok.mod.kin hm.kp (thn (ha.run pos pins s1 σ H1 _ I1 q) fun us s2 h2 => ?_) hst hpl)
  obtain ⟨vs, H2, I2, r, q2⟩ := h2
  exact ⟨I2.kIn, run_fnSD (us := .ref a :: us) (vs := .ref a :: vs) F hr hb hd (hx σ) I2 (.cons rfl r) q2⟩
def tMakeT (C : Addr) (sp : Sp) (dvs : List V) (E : L2.St → XK) (t : TA) : TE := fun σ H Q => t σ H fun vs H1 => ∀ x dx, H1 x = none → H1 dx = none → dx ≠ x → sp (.ref x :: (vs ++ dvs)) (upd (upd H1 dx (.own x)) x (.ins C dx [])) (fun v H2 => v = .non ∧ Q (.ref x) H2) (E σ)
theorem pe_makeT (M : Mk X.K C f) (F : FnOk X.prog X.w X.K X.mg X.base CX k f fd ps sp) (hr : Room (k + 1) X.A) (hg : Gl X x) (hm : X.mg x = some (.ref C)) (hb : Binds X.K fd ps ds) (hd : Vals dvs ds) (hx : ∀ σ, PassesAt CX X σ (E σ))
    (ha : PA X (e :: es) t) (hdb : (x == ("__debug__" : Str)) = false := by decide) (he : starEach (e :: es) X.env = (false, eval e X.env) :: starEach es X.env := by rfl) (hpl : (backTo pos (starEach es X.env)).any (·.1) = false := by rfl) :
    PE X (.Call (.Name x p) (e :: es) [] pos) (tMakeT C sp dvs E t) := by
  refine ⟨fun pins s σ H Q I h => wpAny_Call_Name_kw (ld_glob I hg hm (PySem.W.callWith_K (h₀ := X.base) I.ok.mod.kin M.kp (thn (ha.run pos pins s σ H _ I h) fun us s1 hh => ?_) he hpl) hdb)⟩
  obtain ⟨vs, H1, I1, r, q⟩ := hh
  refine ⟨I1.kIn, ?_⟩
  have q' := q (s1.heap.objs.size + 1) s1.heap.objs.size (I1.hok.fresh (Nat.le_succ _)) (I1.hok.fresh (Nat.le_refl _)) (Nat.ne_of_lt (Nat.lt_succ_self _))
  have made := Inv.made (C := C) I1
  have rr : Vals (V.ref (s1.heap.objs.size + 1) :: (vs ++ dvs)) (Value.ref (s1.heap.objs.size + 1) :: (us ++ ds)) := .cons rfl (r.append hd)
  have ln := rr.length
  rw [F.len _ _ _ _ q'] at ln
  have bb := hb _ (Value.ref (s1.heap.objs.size + 1) :: us) made.kIn ln.symm
  have run := F.run _ X.stack _ _ ⟨Value.ref (s1.heap.objs.size + 1) :: us, []⟩ _ _ _ (E σ) (hr.make C us []) (made.env0.make C us []) bb rr q'
  refine wpAny_call (make_map (f := f) I1.kIn M.makes M.init (beq_iff_eq.mp M.fn) (codeAny_mono run fun res s' hres => ?_))
  rcases res with er | fl
  · exact hx σ pins _ _ er s' made hres
  · cases fl
    case ret w =>
      obtain ⟨_, H', I3, rv, rfl, q3⟩ := made.after hres
      exact ⟨rv, V.ref (s1.heap.objs.size + 1), H', I3, rfl, q3⟩
    all_goals exact hres.elim
end

/-! ### defs called while an exception is handled (they raise nothing) -/
structure FnQ (P : Program) (w : World) (K : PySem.W.Frag) (mg : Str → Option Value) (base : Heap) (k : Nat) (f : Addr) (fd : FuncData) (ps : List Str) (sp : Sp) : Prop where
  size : ∀ vs H Q E, sp vs H Q E → vs.length = ps.length
  runs : ∀ (A : Around) (outer : List Env) (s : Shared) (H : Hp) (args : Args) (us : List Value) (vs : List V) (Q : VK) (E : XK), L2H.RoomH k A → Env0 P w K mg base A outer s H → BindsTo s fd args (ps.zip us) → Vals vs us → sp vs H Q E → codeAny (model P w) A (.call (.ref f) args) (CR CX0 outer P w H s Q E) s
def cxQ (P : Program) (w : World) (K : PySem.W.Frag) (mg : Str → Option Value) (base : Heap) (N : List Str) (qual : Str) (scope : Scope) (f : Addr) (cd : Value) (A : Around) (outer : List Env) (s : Shared) (H : Hp) (E : XK) : Cx :=
  { cxOf CX0 P w K mg base N qual scope f cd A outer s H E with calm := false }
instance {P : Program} {w : World} {K : PySem.W.Frag} {mg : Str → Option Value} {base : Heap} {N : List Str} {qual : Str} {scope : Scope} {f : Addr} {cd : Value} {A : Around} {outer : List Env} {s : Shared} {H : Hp} {E : XK} [h : PrOk P] : PrOk (cxQ P w K mg base N qual scope f cd A outer s H E).prog := h
theorem inv_cold {P : Program} {w : World} {K : PySem.W.Frag} {mg : Str → Option Value} {base : Heap} {N : List Str} {qual : Str} {scope : Scope} {f : Addr} {cd : Value} {A : Around} {outer : List Env} {s s1 : Shared} {H H1 : Hp} {E : XK} {pins : List (Addr × Obj)} {σ : L2.St}
    (I : Inv (cxOf CX0 P w K mg base N qual scope f cd { A with handled := none } outer s H E) pins σ H1 s1) (fr : A.frames = some outer) : Inv (cxQ P w K mg base N qual scope f cd A outer s H E) pins σ H1 s1 :=
  have o := I.ok
  ⟨⟨o.mod, o.kind, o.glob, o.blt, o.above, o.inj, o.has, o.cab, fun z => Bool.noConfusion (show false = true from z), Around.frames_deeper fr, o.stk, o.exf, o.bs, o.bsz, o.noex, o.exfs, o.funs, o.frf⟩, I.os, I.bare, I.base, I.loc, I.cell, I.free, I.freeC, I.pin, I.hok, I.len⟩
theorem fun_okQ {P : Program} {w : World} {K : PySem.W.Frag} {mg : Str → Option Value} {base : Heap} {x qual : Str} {st : Stmt} {f : Addr} {fd : FuncData} {N ps : List Str} {k : Nat} {sp : Sp} (F : Fun K x qual st f fd) (S : FnScope N ps (defScope st)) (len : ∀ vs H Q E, sp vs H Q E → vs.length = ps.length)
    (hbody : ∀ (cdv : Value) (A : Around) (outer : List Env) (s : Shared) (H : Hp) (vs : List V) (Q : VK) (E : XK), L2H.RoomH k (A.deeper (envOfC qual (defScope st) s.heap.objs.size f cdv)) → sp vs H Q E →
      ∃ t, PSs (cxQ P w K mg base N qual (defScope st) f cdv A outer s H E).nox (defBody st) t ∧ t { nx := fun _ H' => Q .non H', rt := Q } (start N vs) H) : FnQ P w K mg base (k + 1) f fd ps sp := by
  obtain ⟨a1, a2, a3, a4, a5, a6, cv, a7, a8, rfl, at_, code⟩ := F.ex
  refine ⟨len, fun A outer s H args us vs Q E hr e0 hb r h => ?_⟩
  have Kin : K.In s.heap := e0.mod.kin.keeps fun b o e => (e0.bs b o e).1
  have free : s.heap.NoLimit := e0.mod.nolimit.keeps fun b o e => (e0.bs b o e).1
  refine codeAny_call_function hr.depth (Kin _ _ at_) rfl S.co S.gen rfl (PySem.W.codeRec_of Kin code) (hb _ _ _ _ (wpAny_newFunctionEnv_cells S.kind (fun y hy => ?_) fun env he s1 z => ?_))
  · obtain ⟨n, v⟩ := y
    exact (S.par n (List.of_mem_zip hy).1).imp id fun q => ⟨q, PySem.W.cellsFrom_some _ _ _ (.inl q)⟩
  · subst he
    obtain ⟨t, ht, hq⟩ := hbody cv A outer s H vs Q E (hr.deeper _) h
    have e1 : Env0 P w K mg base { A with handled := none } outer s H := ⟨e0.frames, e0.mod, e0.bs, e0.bsz, e0.funs, e0.frf, e0.hok, e0.bare⟩
    have J := inv_cold (inv_start (CX := CX0) (E := E) (f := f) (cd := cv) S rfl e1 (len _ _ _ _ h) r z) e0.frames
    refine ⟨free.keeps z.toInCall.keep, codeAny_func (wpAny_mono (ht.nox.run [] s1 (start N vs) H _ J hq) (fun fl s2 hs => ?_) fun _ _ y => y)⟩
    cases fl
    case ret u => obtain ⟨v, _, H', J2, rv, q⟩ := hs; exact ⟨v, H', J2.os, J2.bare, J2.base, J2.hok, rv, q⟩
    case next => obtain ⟨_, H', J2, q⟩ := hs; exact ⟨V.non, H', J2.os, J2.bare, J2.base, J2.hok, (rfl : RelV V.non Value.none), q⟩
    case brk => obtain ⟨_, _, _, q⟩ := hs; exact q.elim
    case cont => obtain ⟨_, _, _, q⟩ := hs; exact q.elim
section
variable {X : Cx} {k : Nat} {f : Addr} {fd : FuncData} {ps : List Str} {sp : Sp} {x : Str} {q pos : Pos} {e : Expr} {es : List Expr} {t : TA}
def tTru (K : PySem.W.Frag) (ta : TE) : TT := fun σ H Q => ta σ H fun x H' => ∃ b, TruV K x H' b ∧ Q b H'
theorem pt_tru {a : Expr} {ta : TE} {ea : Addr} {pn : List (Addr × Obj)} (ha : PE (X.suite ea pn) a ta) (he : ∀ whole, isTrue a X.env whole = (whole >>= fun v => standAt a.pos >>= fun _ => holding [v] (truthy v))) : PT (X.suite ea pn) a (tTru X.K ta) := pt_truth (X := X.suite ea pn) ha he
theorem pe_fldS {o : Expr} {ta : TE} {g : Str} {ea : Addr} {pn : List (Addr × Obj)} {q0 : Pos} (h : PE (X.suite ea pn) o ta) (hb : attributeBase o g X.env (eval o X.env) = eval o X.env) : PE (X.suite ea pn) (.Attribute o g q0) (tFld X.K ta g) := pe_fld (X := X.suite ea pn) h hb
theorem roomS {X : Cx} {a : Addr} {pn : List (Addr × Obj)} {i j : Nat} (h : Room j X.A) (le : i ≤ j) : L2H.RoomH i (X.suite a pn).A := ⟨(h.mono le).dp, (h.mono le).un⟩
def tCallQ (sp : Sp) (t : TA) : TE := fun σ H Q => t σ H fun vs H1 => sp vs H1 Q (fun _ _ _ => False)
theorem pe_callQ (F : FnQ X.prog X.w X.K X.mg X.base k f fd ps sp) (hr : L2H.RoomH k X.A) (hg : Gl X x) (hm : X.mg x = some (.ref f)) (hk : PySem.W.keepIn X.K (.ref f) = true) (hb : Binds X.K fd ps [])
    (ha : PA X (e :: es) t) (hdb : (x == ("__debug__" : Str)) = false := by decide) (he : starEach (e :: es) X.env = (false, eval e X.env) :: starEach es X.env := by rfl) (hpl : (backTo pos (starEach es X.env)).any (·.1) = false := by rfl) :
    PE X (.Call (.Name x q) (e :: es) [] pos) (tCallQ sp t) := by
  refine ⟨fun pins s σ H Q I h => wpAny_Call_Name_kw (ld_glob I hg hm (PySem.W.callWith_K (h₀ := X.base) I.ok.mod.kin hk (thn (ha.run pos pins s σ H _ I h) fun us s1 hh => ?_) he hpl) hdb)⟩
  obtain ⟨vs, H1, I1, r, q1⟩ := hh
  have b := hb s1 us I1.kIn (by rw [List.append_nil, ← r.length]; exact F.size _ _ _ _ q1)
  rw [List.append_nil] at b
  refine ⟨I1.kIn, wpAny_call (codeAny_mono (F.runs X.A X.stack s1 H1 ⟨us, []⟩ us vs Q (fun _ _ _ => False) hr I1.env0 b r q1) fun res s2 hres => ?_)⟩
  rcases res with er | fl
  · exact hres.elim
  · cases fl
    case ret u => exact I1.after hres
    all_goals exact hres.elim
end
theorem exm_sup {K : PySem.W.Frag} {S B : Addr} (h1 : PySem.W.subIn K (.ref B) (.type "BaseException") = some true) (h2 : PySem.W.isClsIn K B = true) (h3 : PySem.W.typeIn K (.ref B) = some (.type "type")) (h4 : PySem.W.subIn K (.ref S) (.ref B) = some true) :
    PySem.W.exmOne K (.ref S) (.ref B) = some true := by
  unfold PySem.W.exmOne
  have e1 : (PySem.W.subIn K (.ref B) (.type "BaseException") == some true) = true := by rw [h1] <;> rfl
  have e2 : ((PySem.W.clsIn K B).isSome && PySem.W.typeIn K (.ref B) == some (.type "type")) = true := by
    rw [show (PySem.W.clsIn K B).isSome = true from h2, h3] <;> rfl
  rw [if_pos e1]
  show (if ((PySem.W.clsIn K B).isSome && PySem.W.typeIn K (.ref B) == some (.type "type")) = true then PySem.W.subIn K (.ref S) (.ref B) else none) = some true
  rw [if_pos e2]
  exact h4
theorem exm_self {K : PySem.W.Frag} {S : Addr} (h1 : PySem.W.subIn K (.ref S) (.type "BaseException") = some true) (h2 : PySem.W.isClsIn K S = true) (h3 : PySem.W.typeIn K (.ref S) = some (.type "type")) (h4 : PySem.W.subIn K (.ref S) (.ref S) = some true) :
    PySem.W.exmOne K (.ref S) (.ref S) = some true := exm_sup h1 h2 h3 h4
/-! ### isinstance of a caught error -/
structure ErrI (K : PySem.W.Frag) (D : Addr) : Prop where
  ha : PySem.W.findIn K (.ref D) "__class__" = some (some (.builtin "object.__class__"))
  hn : PySem.W.specialIn K (.builtin "object.__class__") "__get__" = some (some (.builtin "getset_descriptor.__get__"))
  ht : PySem.W.takesIn K (.builtin "object.__class__") = some true
  hm : PySem.W.mroIn K D (.type "object") = some true
section
open PySem.W PySem.Calls
variable {prog : Program} {w : World} {A : Around} {E : Value → Shared → Prop} {s : Shared} {K : Frag} {x D : Addr} {ox : Obj} {od : Option Obj}
theorem exc_class {Q : Option Value → Shared → Prop} (T : OexC K D) (F : XfC K D) (Y : ErrI K D) (X : K.In s.heap) (J : InstAt s.heap x ox D od) (h : Q (some (.ref D)) { s with toks := s.toks + 1 }) : wpAny (model prog w) A (getAttr? (.ref x) "__class__") Q E s := by
  have bound : findObj K D od "__class__" = some (.bind (.builtin "getset_descriptor.__get__") (.builtin "object.__class__")) := by
    obtain ⟨_, _, _, _, _, _, _, _, _, _, _, _, _, _, _, at_, _⟩ := T.cls
    unfold findObj clsIn
    rw [at_]
    simp only [Option.bind_some, Y.ha, Y.hn, Y.ht]
  obtain ⟨g0, a0, d0, t0, o0⟩ := s
  have ty := J.type (M := model prog w); have ga := looks_findIn (M := model prog w) X F.ga; have gg := looks_findIn (M := model prog w) X F.gg; have fd := looks_find (M := model prog w) X J bound
  have below : Looks (model prog w) g0 (isInstance (.ref x) (.type "BaseException")) true := ty.andThen (looks_subIn X F.exC)
  have b2 : (Value.builtin "BaseException.__getattribute__" == Value.builtin "object.__getattribute__") = false := by decide +kernel
  unfold getAttr? getAttrBy? getAttrBy
  refine wpAny_bind (wpAny_mkText (wpAny_bind (wpAny_attempt (wpAny_holding (wpAny_bind (ty.at (wpAny_bind (ga.at ?_))))))))
  show wpAny _ _ (ite ((onTheHeap (Value.ref D) && Value.builtin "BaseException.__getattribute__" == Value.builtin "object.__getattribute__") = true) _ _) _ _ _
  rw [b2, Bool.and_false, if_neg Bool.false_ne_true]
  unfold getAttrByItsOwn hookBefore; refine wpAny_bind ?_; rw [if_pos (show onTheHeap (Value.ref D) = true from rfl)]
  refine gg.at (wpAny_bind (wpAny_attempt (wpAny_holding ?_)))
  unfold callGetattribute; rw [show (false && onTheHeap (Value.builtin "BaseException.__getattribute__")) = false from rfl, if_neg Bool.false_ne_true]
  unfold boundAndCalled; rw [PySem.F.excAttr_ValueError.ga.bind (.ref x)]; refine wpAny_bind (wpAny_pure ?_)
  show wpAny _ _ (call (.builtin "BaseException.__getattribute__") [.ref x, .str "__class__" t0]) _ _ _
  refine wpAny_call (codeAny_call_builtin PySem.F.excAttr_ValueError.ga.plain PySem.F.entry_bexc_ga (@check_slot (model prog w) _ _ ⟨g0, a0, d0, t0 + 1, o0⟩ "BaseException.__getattribute__" "BaseException" "__getattribute__" (.ref x) [.str "__class__" t0] [] _ (by decide +kernel) (by decide +kernel) below (PySem.F.args_bexc_ga (.ref x) (.str "__class__" t0)) ?_))
  unfold Builtin.«object.__getattribute__»; refine wpAny_bind (wpAny_of_eq (a := ((Value.ref x : Value), [Value.str "__class__" t0])) (by first | rfl | (simp only [slotArgs]; rfl)) ?_)
  refine wpAny_bind (wpAny_pure (wpAny_bind (ty.at (wpAny_bind (fd.at ?_))))); show wpAny _ _ (holding [Value.builtin "object.__class__"] (call (.builtin "getset_descriptor.__get__") [.builtin "object.__class__", .ref x, .ref D]) >>= ret) _ _ _
  refine wpAny_bind (wpAny_holding (wpAny_call (class_get (s := ⟨g0, a0, d0, t0 + 1, o0⟩) X J Y.hm (wpAny_pure ?_)))); show wpAny _ _ (handedOut (.ref D)) _ _ _; rw [handedOut_of (v := .ref D) rfl]
  first | exact wpAny_pure (wpAny_pure h) | exact wpAny_pure h | exact wpAny_pure (wpAny_bind (wpAny_pure (wpAny_pure h)))
theorem kitx_err (T : OexC K D) (F : XfC K D) (Y : ErrI K D) : KitX K (.ref x) (.ref D) (fun h => ∃ od, InstAt h x ox D od) where
  ty := fun _ _ _ ⟨_, J⟩ => J.type
  it := fun _ _ X _ => by
    obtain ⟨_, _, _, _, _, _, _, _, _, _, _, _, _, _, _, at_, _⟩ := T.cls
    intro A' Q' E' s' k q
    exact PySem.ks_wpAny_isType_cls (k _ _ (X _ _ at_)) rfl q
  ne := fun h tp dd its n sl X htp => Bool.eq_false_iff.mpr fun q => by
    obtain ⟨_, _, _, _, _, _, _, _, _, _, _, _, _, _, _, at_, _⟩ := T.cls
    have e : D = tp := Value.ref.inj (beq_iff_eq.mp q)
    subst e
    have z := congrArg Obj.data (Option.some.inj ((X _ _ at_).symm.trans htp))
    cases z
  ca := fun X ⟨_, J⟩ k => exc_class T F Y X J k
theorem kit_own {C : Addr} {b : Bool} (h1 : subIn K (.ref D) (.ref C) = some b) (h2 : isClsIn K C = true) (h3 : typeIn K (.ref C) = some (.type "type")) (h4 : subIn K (.ref D) (.ref D) = some true) : kitOne K (.ref D) (.ref C) = some b := by
  unfold kitOne
  by_cases e : D = C
  · subst e
    rw [if_pos (beq_self_eq_true _), ← h1, h4]
  · rw [if_neg (show ¬ (Value.ref D == Value.ref C) = true from fun z => e (Value.ref.inj (beq_iff_eq.mp z)))]
    show (if ((clsIn K C).isSome && typeIn K (.ref C) == some (.type "type")) = true then subIn K (.ref D) (.ref C) else none) = some b
    rw [show (clsIn K C).isSome = true from h2, h3, if_pos (by rfl)]
    exact h1
theorem kit_val (h : subIn K (.ref D) (.type "ValueError") = some true) : kitOne K (.ref D) (.type "ValueError") = some true := by
  unfold kitOne
  rw [if_neg (show ¬ (Value.ref D == Value.type "ValueError") = true from fun z => by cases beq_iff_eq.mp z)]
  show (if kitMeta "ValueError" = true then subIn K (.ref D) (.type "ValueError") else none) = some true
  rw [if_pos (by decide +kernel)]
  exact h
theorem kit_nil : kitAny K (.ref D) [] = some false := rfl
theorem kit_cons {c : Value} {cs : List Value} {b : Bool} (h : kitOne K (.ref D) c = some false) (r : kitAny K (.ref D) cs = some b) : kitAny K (.ref D) (c :: cs) = some b := by
  unfold kitAny
  rw [h]
  exact r
end
/-- isinstance(e, C) and isinstance(e, (C1, ..)), e the caught error at a -/
def rIsXd (K : PySem.W.Frag) (cls : Value) (d : Option Addr) (a : Addr) : List V → Hp → VK → Prop := fun xs H Q => ∃ (D : Addr) (dd : Addr) (fs : List (Str × V)) (b : Bool), cls = .ref D ∧ d = some dd ∧ OexC K D ∧ XfC K D ∧ ErrI K D ∧ H dd = some (.xd fs) ∧
  ((∃ (c : V) (cv : Value), xs = [.ref a, c] ∧ (∀ u, RelV c u → u = cv) ∧ PySem.W.kitOne K (.ref D) cv = some b) ∨ (∃ (tp : Addr) (cs : List V) (ws : List Value), xs = [.ref a, .ref tp] ∧ H tp = some (.tup cs) ∧ (∀ us, Vals cs us → us = ws) ∧ PySem.W.kitAny K (.ref D) ws = some b)) ∧ Q (.bl b) H
theorem call_isX {X : Cx} {a : Addr} {oe : Obj} {cls : Value} {d : Option Addr} {pn : List (Addr × Obj)} (hz : Zc cls d oe) (hf : ∃ vs, oe.data = .fields vs) : CallR (X.suite a ((a, oe) :: pn)) (.builtin "isinstance") (rIsXd X.K cls d a) := by
  intro pins s σ H xs us Q I r h
  obtain ⟨D, dd, fs, b, rfl, rfl, T, F, Y, hd, way, q⟩ := h
  obtain ⟨hget, _⟩ := I.pin (a, oe) (List.mem_append.mpr (.inl List.mem_cons_self))
  obtain ⟨vs, hv⟩ := hf
  obtain ⟨mA, hns, _⟩ := (show ObjOk X.prog X.w H s.heap dd (.xd fs) from I.hok dd _ hd)
  obtain ⟨od, ho, _⟩ := lookIn_ns hns
  have J : ∃ od, PySem.W.InstAt s.heap a oe D od := ⟨some od, hget, hz.1, by unfold PySem.W.notCls; rw [hv] <;> rfl, by rw [hz.2]; exact ho⟩
  have Z := kitx_err (x := a) (ox := oe) T F Y
  rcases way with ⟨c, cv, rfl, hc, e⟩ | ⟨tp, cs, ws, rfl, ht, hw, e⟩
  · obtain ⟨u1, u2, rfl, r1, r2⟩ := vals2 r
    cases r1
    rw [hc _ r2]
    exact PySem.W.kia_one Z I.kIn J e (fun z => nomatch z) fun tk => ⟨.bl b, H, I.tok tk, rfl, q⟩
  · obtain ⟨u1, u2, rfl, r1, r2⟩ := vals2 r
    cases r1
    cases r2
    obtain ⟨_, its, rv, o, h1, h2, n, h3⟩ := (show ObjOk X.prog X.w H s.heap tp (.tup cs) from I.hok tp _ ht)
    rw [hw _ rv] at h3
    obtain ⟨oc, od', dt, sl⟩ := o
    simp only at h2 h3
    subst h2 h3
    exact PySem.W.kia_tup Z I.kIn J h1 e (fun z => nomatch z) fun tk => ⟨.bl b, H, I.tok tk, rfl, q⟩


/-! ### attributes by their places -/
theorem lk_ix {fs : List (Str × V)} {f : Str} {v : V} (nd : (fs.map (·.1)).Nodup) (i : Nat) (h : fs[i]? = some (f, v)) : fs.lookup f = some v := by
  induction fs generalizing i with
  | nil => simp at h
  | cons p r ih =>
    obtain ⟨g, x⟩ := p
    rw [List.map_cons, List.nodup_cons] at nd
    cases i with
    | zero =>
      cases h
      have hb : (f == f) = true := beq_self_eq_true f
      simp only [List.lookup, hb]
    | succ i =>
      rw [List.getElem?_cons_succ] at h
      have hm : f ∈ r.map (·.1) := List.mem_map.mpr ⟨(f, v), List.mem_of_getElem? h, rfl⟩
      have hb : (f == g) = false := beq_eq_false_iff_ne.mpr fun e => nd.1 (e ▸ hm)
      simp only [List.lookup, hb]
      exact ih nd.2 i h
theorem lk_none {fs : List (Str × V)} {f : Str} (h : f ∉ fs.map (·.1)) : fs.lookup f = none := by
  induction fs with
  | nil => rfl
  | cons p r ih =>
    obtain ⟨g, x⟩ := p
    rw [List.map_cons, List.mem_cons, not_or] at h
    have hb : (f == g) = false := beq_eq_false_iff_ne.mpr h.1
    simp only [List.lookup, hb]
    exact ih h.2
theorem pf_ix {fs : List (Str × V)} {f : Str} {v x : V} (nd : (fs.map (·.1)).Nodup) (i : Nat) (h : fs[i]? = some (f, x)) : putF f v fs = fs.set i (f, v) := by
  induction fs generalizing i with
  | nil => simp at h
  | cons p r ih =>
    obtain ⟨g, y⟩ := p
    rw [List.map_cons, List.nodup_cons] at nd
    cases i with
    | zero =>
      cases h
      show (if f = f then _ else _) = _
      rw [if_pos rfl]
      rfl
    | succ i =>
      rw [List.getElem?_cons_succ] at h
      have hm : f ∈ r.map (·.1) := List.mem_map.mpr ⟨(f, x), List.mem_of_getElem? h, rfl⟩
      show (if g = f then _ else _) = _
      rw [if_neg (show ¬ g = f from fun e => nd.1 (e ▸ hm)), ih nd.2 i h]
      rfl
theorem pf_new {fs : List (Str × V)} {f : Str} {v : V} (h : f ∉ fs.map (·.1)) : putF f v fs = fs ++ [(f, v)] := by
  induction fs with
  | nil => rfl
  | cons p r ih =>
    obtain ⟨g, y⟩ := p
    rw [List.map_cons, List.mem_cons, not_or] at h
    show (if g = f then _ else _) = _
    rw [if_neg (show ¬ g = f from fun e => h.1 e.symm), ih h.2]
    rfl


def okInt : V → Prop := fun v => ∃ i : Int, v = .int i ∧ (0 ≤ i ∧ i < 100000)
theorem okInt_log {i : Int} (h : 0 ≤ i ∧ i < 100000) : i.natAbs.log2 < 1920 := by
  by_cases z : i.natAbs = 0
  · rw [z]; decide
  · exact (Nat.log2_lt z).mpr (Nat.lt_of_lt_of_le (show i.natAbs < 2 ^ 17 by omega) (Nat.pow_le_pow_right (by decide) (by decide)))
theorem okInt_len {i : Int} (a : Str) (h : 0 ≤ i ∧ i < 100000) (ha : decide (a.length ≤ 1000) = true) : (a ++ Str.ofString (toString i)).length ≤ sizeLine := by
  obtain ⟨n, rfl⟩ : ∃ n : Nat, i = (n : Int) := ⟨i.toNat, by omega⟩
  have h1 := (num_asc n (by omega)).2
  have h2 : a.length ≤ 1000 := of_decide_eq_true ha
  rw [app_len, sizeLine_eq]
  omega
def Bd (n : Int) : Prop := 0 ≤ n ∧ n < 65536

theorem iteS {a : Str} {A B : Prop} (h : A) : if decide (V.str a = V.str a) = true then A else B := by
  rw [decide_eq_true rfl]
  exact iteT h
theorem iteN {a b : Str} {A B : Prop} (n : a ≠ b) (h : B) : if decide (V.str a = V.str b) = true then A else B := by
  rw [decide_eq_false fun z => n (V.str.inj z)]
  exact iteF h
theorem str_eq {a b : Str} (z : decide (V.str a = V.str b) = true) : a = b := V.str.inj (of_decide_eq_true z)
theorem strs_flat (ts : List Str) : (ts.map V.str).all flatV = true := by
  rw [List.all_eq_true]
  intro v m
  obtain ⟨x, _, rfl⟩ := List.mem_map.mp m
  rfl
theorem small_str {k : Int} (h0 : 0 ≤ k) (h1 : k < 1000) : (Str.ofString (toString k)).length ≤ 6 ∧ k.natAbs.log2 < 1920 := by
  obtain ⟨m, rfl⟩ := Int.eq_ofNat_of_zero_le h0
  constructor
  · have e : (Str.ofString (toString ((m : Nat) : Int))).cps.toList = TL.numL m := TL.tl_num m
    show (Str.ofString (toString ((m : Nat) : Int))).cps.toList.length ≤ 6
    rw [e]
    exact TL.numL_len (by decide) (by omega)
  · have : m.log2 ≤ 1919 := PySem.W.mg_log (Nat.lt_of_lt_of_le (show m < 1000 by omega) (by decide +kernel))
    show m.log2 < 1920
    omega
def NumL (x : Str) (r : V) : Prop := (∃ n : Nat, n ≤ 65535 ∧ x.cps.toList = TL.numL n ∧ r = .int n) ∨ ((∀ n : Nat, n ≤ 65535 → x.cps.toList ≠ TL.numL n) ∧ r = .int (-1))
def cuF (wl z1 z2 : Addr) (i : Int) : List (Str × V) := [("_words", .ref wl), ("options", .ref z1), ("variables", .ref z2), ("sees", .bl false), ("at", .int i)]
theorem cuNd {wl z1 z2 : Addr} {i : Int} : ((cuF wl z1 z2 i).map (·.1)).Nodup := by
  show (["_words", "options", "variables", "sees", "at"] : List Str).Nodup
  decide +kernel
/-- a cursor at its place -/
def CuS (C : Addr) (H : Hp) (a wl : Addr) (ws : List Str) (i : Nat) : Prop := ∃ dx z1 z2, H a = some (.ins C dx (cuF wl z1 z2 i)) ∧ H wl = some (.lst (ws.map V.str))
theorem CuS.same {C : Addr} {H H' : Hp} {a wl : Addr} {ws : List Str} {i : Nat} (h : CuS C H a wl ws i) (s : Same H H') : CuS C H' a wl ws i := by
  obtain ⟨dx, z1, z2, e, f⟩ := h
  exact ⟨dx, z1, z2, s _ _ e, s _ _ f⟩
def hereV (ws : List Str) (i : Nat) : V := match ws[i]? with
  | some x => .str x
  | none => .non
inductive Deed where
  | word (w : Str)
  | num (l m : Int)
  | name (ns : List Str)
  | fresh (ns : List Str)
/-- what a deed gives at a word that fits -/
def Fit : Deed → Str → V → Prop
  | .word w, x, v => x = w ∧ v = .non
  | .num l m, x, v => ∃ n : Nat, n ≤ 65535 ∧ x.cps.toList = TL.numL n ∧ l ≤ (n : Int) ∧ (n : Int) ≤ m ∧ v = .int n
  | .name ns, x, v => x ∈ ns ∧ v = .str x
  | .fresh ns, x, v => NameP x ∧ x ∉ ns ∧ v = .str x
def Wds (ws : List Str) : Prop := ∀ x ∈ ws, Asc x ∧ x.length ≤ 100

theorem none_back {H H' : Hp} {d : Addr} (s : Same H H') (h : H' d = none) : H d = none := by
  cases e : H d with
  | none => rfl
  | some o => rw [s _ _ e] at h; cases h
theorem cu_no {wl z1 z2 : Addr} {i : Int} {m : Str} (h : m ∉ (["_words", "options", "variables", "sees", "at"] : List Str)) : (cuF wl z1 z2 i).lookup m = none := lk_none h
theorem cu_meths : ("_pass_if" : Str) ∉ (["_words", "options", "variables", "sees", "at"] : List Str) ∧ ("take_word" : Str) ∉ (["_words", "options", "variables", "sees", "at"] : List Str) ∧ ("take_number" : Str) ∉ (["_words", "options", "variables", "sees", "at"] : List Str) ∧ ("take_name" : Str) ∉ (["_words", "options", "variables", "sees", "at"] : List Str) ∧ ("take_new_name" : Str) ∉ (["_words", "options", "variables", "sees", "at"] : List Str) := by decide +kernel
theorem here_scal {ws : List Str} {i : Nat} {w : Str} : scal (hereV ws i) (.str w) = true := by
  unfold hereV
  split <;> rfl
/-- what a deed comes to: passed, or refused at the place -/
def DeedK (C B : Addr) (H : Hp) (a wl : Addr) (ws : List Str) (i : Nat) (dd : Deed) (Q : VK) (E : XK) : Prop :=
  (∀ x v, ws[i]? = some x → Fit dd x v → ∀ H', But a H H' → CuS C H' a wl ws (i + 1) → Q v H') ∧
  ((∀ x v, ws[i]? = some x → ¬ Fit dd x v) → ∀ d H', Same H H' → H d = none → H' d = some (.xd [("at", .int (i : Nat))]) → E (.ref B) (some d) H')

theorem dp_strs {K : PySem.W.Frag} {H : Hp} : ∀ ws : List Str, DpAll K H (ws.map V.str) (ws.map PyData.str)
  | [] => .nil
  | w :: r => .cons (.str w) (dp_strs r)
theorem asc_ok {x : Str} (h : Asc x) : PyData.strOk x = true := by
  unfold PyData.strOk
  rw [Array.all_eq_true_iff_forall_mem]
  intro c m
  have := h c (Array.mem_toList_iff.mpr m)
  simp
  omega
theorem d_room {A : Around} {k : Nat} (h : Room k A) : A.units + 1 < cLine := by
  have := h.un
  omega
theorem eq_room {A : Around} {k : Nat} (h : Room k A) : A.units + 64 < cLine := by
  have := h.un
  omega
theorem strs_lay {ns : List Str} (h : ∀ x ∈ ns, Asc x) (l : ns.length ≤ 1000) : Lay 1 (.list (ns.map PyData.str)) := lay_list (n := 0) (by rw [List.length_map]; omega) fun d m => by
  obtain ⟨w, mw, rfl⟩ := List.mem_map.mp m
  exact lay_str (asc_ok (h w mw))
def hereD (ws : List Str) (i : Nat) : PyData := match ws[i]? with
  | some x => .str x
  | none => .none
theorem here_da {H : Hp} {ws : List Str} {i : Nat} : Da H (hereV ws i) (hereD ws i) := by
  unfold hereV hereD
  split
  · exact .str _
  · exact .non
theorem here_ok {ws : List Str} {i : Nat} : (hereD ws i).depth < 8 ∧ wide (hereD ws i) = true := by
  unfold hereD
  split
  · exact ⟨by simp [PyData.depth], by simp [wide]⟩
  · exact ⟨by simp [PyData.depth], by simp [wide]⟩
theorem here_cases {ws : List Str} {i : Nat} (h : Wds ws) : hereV ws i = .non ∨ ∃ x, hereV ws i = .str x ∧ x.length ≤ 100 ∧ Asc x := by
  unfold hereV
  split
  · rename_i x e
    exact .inr ⟨x, rfl, (h x (List.mem_of_getElem? e)).2, (h x (List.mem_of_getElem? e)).1⟩
  · exact .inl rfl
theorem here_some {ws : List Str} {i : Nat} {x : Str} (h : hereV ws i = .str x) : ws[i]? = some x := by
  unfold hereV at h
  split at h
  · rename_i y e
    rw [e, V.str.inj h]
  · cases h
theorem here_of {ws : List Str} {i : Nat} {x : Str} (h : ws[i]? = some x) : hereV ws i = .str x := by
  unfold hereV
  rw [h]
/-- the law's own word of a deed -/
def DueR (H H2 : Hp) (hv : V) (dd : Deed) (dv : V) : Prop := (∃ x v pd, hv = .str x ∧ Fit dd x v ∧ dv = .ref pd ∧ H2 pd = some (.tup [.str "passed", v])) ∨ ((∀ x v, hv = .str x → ¬ Fit dd x v) ∧ dv = .non)
theorem due_both {H : Hp} {hv : V} {dd : Deed} {Q : VK} (h : ∀ dv H2, Same H H2 → DueR H H2 hv dd dv → Q dv H2) : (∀ x v, hv = .str x → Fit dd x v → ∀ p H', Same H H' → H' p = some (.tup [.str "passed", v]) → Q (.ref p) H') ∧ ((∀ x v, hv = .str x → ¬ Fit dd x v) → ∀ H', Same H H' → Q .non H') :=
  ⟨fun x v e f p H' s g => h _ _ s (.inl ⟨x, v, p, e, f, rfl, g⟩), fun nf H' s => h _ _ s (.inr ⟨nf, rfl⟩)⟩
/-- the program's -/
def DoneR (C : Addr) (H H2 : Hp) (a wl : Addr) (ws : List Str) (i : Nat) (dd : Deed) (pa : Addr) : Prop := (∃ x v, ws[i]? = some x ∧ Fit dd x v ∧ But a H H2 ∧ CuS C H2 a wl ws (i + 1) ∧ H2 pa = some (.tup [.str "passed", v])) ∨ ((∀ x v, ws[i]? = some x → ¬ Fit dd x v) ∧ Same H H2 ∧ H2 pa = some (.tup [.str "refused", .int (i : Nat), .bl true]))
theorem done_both {C : Addr} {H : Hp} {a wl : Addr} {ws : List Str} {i : Nat} {dd : Deed} {Q : VK} (h : ∀ pa H2, DoneR C H H2 a wl ws i dd pa → Q (.ref pa) H2) : (∀ x v, ws[i]? = some x → Fit dd x v → ∀ p H', But a H H' → CuS C H' a wl ws (i + 1) → H' p = some (.tup [.str "passed", v]) → Q (.ref p) H') ∧
  ((∀ x v, ws[i]? = some x → ¬ Fit dd x v) → ∀ p H', Same H H' → H' p = some (.tup [.str "refused", .int (i : Nat), .bl true]) → Q (.ref p) H') :=
  ⟨fun x v e f p H' b c g => h _ _ (.inl ⟨x, v, e, f, b, c, g⟩), fun nf p H' s g => h _ _ (.inr ⟨nf, s, g⟩)⟩
theorem fit_uniq {dd : Deed} {x : Str} {v w : V} (a : Fit dd x v) (b : Fit dd x w) : v = w := by
  cases dd with
  | word => exact a.2.trans b.2.symm
  | num =>
    obtain ⟨n, _, e, _, _, r⟩ := a
    obtain ⟨m, _, g, _, _, t⟩ := b
    rw [r, t, TL.numL_inj (e.symm.trans g)]
  | name => exact a.2.trans b.2.symm
  | fresh => exact a.2.2.trans b.2.2.symm
theorem fit_da {dd : Deed} {x : Str} {v : V} {H : Hp} (a : Fit dd x v) : ∃ D : PyData, Da H v D ∧ D.depth = 0 ∧ wide D = true := by
  cases dd with
  | word => rw [a.2]; exact ⟨_, .non, by simp [PyData.depth], by simp [wide]⟩
  | num =>
    obtain ⟨n, _, e, _, _, r⟩ := a
    rw [r]
    exact ⟨_, .int _, by simp [PyData.depth], by simp [wide]⟩
  | name => rw [a.2]; exact ⟨_, .str _, by simp [PyData.depth], by simp [wide]⟩
  | fresh => rw [a.2.2]; exact ⟨_, .str _, by simp [PyData.depth], by simp [wide]⟩
theorem ixN_zero {n : Nat} (h : 0 < n) : ixN n 0 = some 0 := by
  unfold ixN
  rw [if_pos (Int.le_refl 0), if_pos (by omega)]
  rfl

/-! ### a call with keywords that may raise -/
def tCallNT (n m : Nat) (sp : Sp) (gV : List V → List V → List V) (E : L2.St → XK) (t tk : TA) : TE := fun σ H Q => t σ H fun vs H1 => tk σ H1 fun zs H2 => vs.length = n ∧ zs.length = m ∧ sp (gV vs zs) H2 Q (E σ)
section
variable {X : Cx} {CX : CXT} {k n : Nat} {f : Addr} {fd : FuncData} {ps ks : List Str} {sp : Sp} {E : L2.St → XK} {x : Str} {p pos : Pos} {e : Expr} {es : List Expr} {kws : List Keyword} {t tk : TA} {g : List Value → List Value → List Value} {gV : List V → List V → List V}
theorem run_fnNT {pins : List (Addr × Obj)} {σ : L2.St} {H : Hp} {s : Shared} {Q : VK} {us ws : List Value} {vs zs : List V} (F : FnOk X.prog X.w X.K X.mg X.base CX k f fd ps sp) (hr : Room k X.A) (hb : KBn X.K fd ps n ks g gV) (hx : PassesAt CX X σ (E σ))
    (I : Inv X pins σ H s) (r : Vals vs us) (rz : Vals zs ws) (l1 : vs.length = n) (l2 : zs.length = ks.length) (h : sp (gV vs zs) H Q (E σ)) : wpAny (model X.prog X.w) X.A (call (.ref f) us (ks.zip ws)) (EP X pins σ Q) X.xe s := by
  have r2 := hb.rel r rz
  refine wpAny_call (codeAny_mono (F.run X.A X.stack s H ⟨us, ks.zip ws⟩ (g us ws) (gV vs zs) Q (E σ) hr I.env0 (hb.to s us ws I.kIn (r.length.symm.trans l1) (rz.length.symm.trans l2)) r2 h) fun r s' hq => ?_)
  cases r with
  | error e => exact hx pins H s e s' I hq
  | ok fl =>
    cases fl with
    | ret u => exact I.after hq
    | next => exact False.elim hq
    | brk => exact False.elim hq
    | cont => exact False.elim hq
theorem pe_callNT (F : FnOk X.prog X.w X.K X.mg X.base CX k f fd ps sp) (hr : Room k X.A) (hg : Gl X x) (hm : X.mg x = some (.ref f)) (hk : PySem.W.keepIn X.K (.ref f) = true) (hb : KBn X.K fd ps n ks g gV) (hx : ∀ σ, PassesAt CX X σ (E σ))
    (ha : PA X (e :: es) t) (hkw : PK X kws tk) (hall : (backToKw pos (keywordEach kws X.env)).all (·.1.isSome) = true := by rfl) (hks : (backToKw pos (keywordEach kws X.env)).filterMap (·.1) = ks := by rfl)
    (hdb : (x == ("__debug__" : Str)) = false := by decide) (he : starEach (e :: es) X.env = (false, eval e X.env) :: starEach es X.env := by rfl)
    (hpl : ((backTo pos (starEach (e :: es) X.env)).any (·.1) || (backToKw pos (keywordEach kws X.env)).any (·.1.isNone)) = false := by rfl) :
    PE X (.Call (.Name x p) (e :: es) kws pos) (tCallNT n ks.length sp gV E t tk) := by
  refine ⟨fun pins s σ H Q I h => ?_⟩
  refine wpAny_Call_Name_kw (ld_glob I hg hm ?_ hdb)
  refine PySem.W.callWith_KW (h₀ := X.base) I.ok.mod.kin hk hall (thn (ha.run pos pins s σ H _ I h) fun us s1 ⟨vs, H1, I1, r, q⟩ => ?_) hpl he
  refine thn (hkw.run pos pins s1 σ H1 _ I1 q) fun ws s2 ⟨zs, H2, I2, rz, l1, l2, q2⟩ => ⟨I2.kIn, ?_⟩
  rw [hks]
  exact run_fnNT F hr hb (hx σ) I2 r rz l1 l2 q2
end


/-! ### expressions -/
def opL : List Str := ["+", "-", "*", "/", "mod", "<", "="]
/-- an expression -/
inductive Ex where
  | num (n : Int) | var (x : Str) | long | view (e : Ex) | pick (x : Str) (a b : Ex) | op (s : Str) (a b : Ex)
def Ex.deep : Ex → Nat
  | .num _ => 1 | .var _ => 1 | .long => 1 | .view e => e.deep + 1 | .pick _ a b => max a.deep b.deep + 1 | .op _ a b => max a.deep b.deep + 1
def Ex.Wf (ns ps : List Str) : Ex → Prop
  | .num n => 0 ≤ n ∧ n < 65536
  | .var x => x ∈ ns
  | .long => True
  | .view e => e.Wf ns ps
  | .pick x a b => x ∈ ps ∧ a.Wf ns ps ∧ b.Wf ns ps
  | .op s a b => s ∈ opL ∧ a.Wf ns ps ∧ b.Wf ns ps
/-- it stands at v -/
inductive Ev (H : Hp) : V → Ex → Prop
  | num {a : Addr} {n : Int} : H a = some (.tup [.str "number", .int n]) → Ev H (.ref a) (.num n)
  | var {a : Addr} {x : Str} : H a = some (.tup [.str "variable", .str x]) → Ev H (.ref a) (.var x)
  | long {a : Addr} : H a = some (.tup [.str "long"]) → Ev H (.ref a) .long
  | view {a : Addr} {v : V} {e : Ex} : H a = some (.tup [.str "view", v]) → Ev H v e → Ev H (.ref a) (.view e)
  | pick {a : Addr} {x : Str} {v w : V} {e f : Ex} : H a = some (.tup [.str "pick", .str x, v, w]) → Ev H v e → Ev H w f → Ev H (.ref a) (.pick x e f)
  | op {a : Addr} {s : Str} {v w : V} {e f : Ex} : H a = some (.tup [.str s, v, w]) → Ev H v e → Ev H w f → Ev H (.ref a) (.op s e f)
theorem Ev.keep {H H' : Hp} (k : KeepT H H') : ∀ {v : V} {e : Ex}, Ev H v e → Ev H' v e
  | _, _, .num h => .num (k _ _ h)
  | _, _, .var h => .var (k _ _ h)
  | _, _, .long h => .long (k _ _ h)
  | _, _, .view h a => .view (k _ _ h) (Ev.keep k a)
  | _, _, .pick h a b => .pick (k _ _ h) (Ev.keep k a) (Ev.keep k b)
  | _, _, .op h a b => .op (k _ _ h) (Ev.keep k a) (Ev.keep k b)
theorem opL_ne {s : Str} (h : s ∈ opL) : s ≠ "number" ∧ s ≠ "variable" ∧ s ≠ "long" ∧ s ≠ "view" ∧ s ≠ "pick" := by
  have : opL.all (fun s => decide (s ≠ "number" ∧ s ≠ "variable" ∧ s ≠ "long" ∧ s ≠ "view" ∧ s ≠ "pick")) = true := by decide +kernel
  exact of_decide_eq_true (List.all_eq_true.mp this s h)
theorem num_ne : ("variable" : Str) ≠ "number" ∧ ("long" : Str) ≠ "number" ∧ ("view" : Str) ≠ "number" ∧ ("pick" : Str) ≠ "number" ∧ ("long" : Str) ≠ "variable" ∧ ("view" : Str) ≠ "variable" ∧ ("pick" : Str) ≠ "variable" ∧ ("view" : Str) ≠ "long" ∧ ("pick" : Str) ≠ "long" ∧ ("pick" : Str) ≠ "view" := by decide +kernel
theorem str_ne {a b : Str} (h : a ≠ b) : ¬ decide (V.str a = V.str b) = true := fun z => h (V.str.inj (of_decide_eq_true z))


/-! ### a cursor with options, variables and sight -/
structure CuI where
  a : Addr
  wl : Addr
  z1 : Addr
  z2 : Addr
  ops : List Str
  vars : List Str
  ws : List Str
  se : Bool
def cuG (wl z1 z2 : Addr) (se : Bool) (i : Int) : List (Str × V) := [("_words", .ref wl), ("options", .ref z1), ("variables", .ref z2), ("sees", .bl se), ("at", .int i)]
theorem cgNd {wl z1 z2 : Addr} {se : Bool} {i : Int} : ((cuG wl z1 z2 se i).map (·.1)).Nodup := by
  show (["_words", "options", "variables", "sees", "at"] : List Str).Nodup
  decide +kernel
theorem cg_no {wl z1 z2 : Addr} {se : Bool} {i : Int} {m : Str} (h : m ∉ (["_words", "options", "variables", "sees", "at"] : List Str)) : (cuG wl z1 z2 se i).lookup m = none := lk_none h
/-- a cursor at its place -/
def CuX (K : PySem.W.Frag) (C : Addr) (H : Hp) (c : CuI) (i : Nat) : Prop := i ≤ c.ws.length ∧ (∃ dx, H c.a = some (.ins C dx (cuG c.wl c.z1 c.z2 c.se i))) ∧ H c.wl = some (.lst (c.ws.map V.str)) ∧ SqT K H c.z1 (c.ops.map V.str) ∧ SqT K H c.z2 (c.vars.map V.str)
theorem sqT_same' {K : PySem.W.Frag} {H H' : Hp} {a : Addr} {xs : List V} (h : SqT K H a xs) (s : Same H H') : SqT K H' a xs := by
  rcases h with (h | ⟨o, h⟩) | h
  · exact .inl (.inl (s _ _ h))
  · exact .inl (.inr ⟨o, s _ _ h⟩)
  · exact .inr h
theorem sqT_keep {K : PySem.W.Frag} {H H' : Hp} {z : Addr} {xs : List V} (h : SqT K H z xs) (k : ∀ o, H z = some o → (∃ ys, o = .tup ys) ∨ (∃ q ys, o = .frz q (.tup ys)) → H' z = some o) : SqT K H' z xs := by
  rcases h with (h | ⟨o, h⟩) | h
  · exact .inl (.inl (k _ h (.inl ⟨_, rfl⟩)))
  · exact .inl (.inr ⟨o, k _ h (.inr ⟨_, _, rfl⟩)⟩)
  · exact .inr h
/-- a tuple stays where an instance is changed -/
theorem sqT_ins {K : PySem.W.Frag} {H H' : Hp} {z a C dx : Addr} {fs : List (Str × V)} {xs : List V} (h : SqT K H z xs) (ha : H a = some (.ins C dx fs)) (b : But a H H') : SqT K H' z xs := sqT_keep h fun o e w => b _ _ (fun y => by
  rw [y, ha] at e
  cases e
  rcases w with ⟨ys, w⟩ | ⟨q, ys, w⟩ <;> cases w) e
theorem sqL_ins {K : PySem.W.Frag} {H H' : Hp} {z a C dx : Addr} {fs : List (Str × V)} {xs : List V} (h : SqL K H z xs) (ha : H a = some (.ins C dx fs)) (b : But a H H') : SqL K H' z xs := by
  rcases h with (h | ⟨o, h⟩) | h
  · exact .inl (.inl (b _ _ (fun y => by rw [y, ha] at h; cases h) h))
  · exact .inl (.inr ⟨o, b _ _ (fun y => by rw [y, ha] at h; cases h) h⟩)
  · exact .inr h
theorem sqT_lst {K : PySem.W.Frag} {H H' : Hp} {z a : Addr} {ys xs : List V} (h : SqT K H z xs) (ha : H a = some (.lst ys)) (b : But a H H') : SqT K H' z xs := sqT_keep h fun o e w => b _ _ (fun y => by
  rw [y, ha] at e
  cases e
  rcases w with ⟨ys, w⟩ | ⟨q, ys, w⟩ <;> cases w) e
theorem CuX.same {K : PySem.W.Frag} {C : Addr} {H H' : Hp} {c : CuI} {i : Nat} (h : CuX K C H c i) (s : Same H H') : CuX K C H' c i := by
  obtain ⟨l, ⟨dx, e⟩, f, g, k⟩ := h
  exact ⟨l, ⟨dx, s _ _ e⟩, s _ _ f, sqT_same' g s, sqT_same' k s⟩
theorem CuX.keepT {K : PySem.W.Frag} {C : Addr} {H H' : Hp} {c : CuI} {i : Nat} (h : CuX K C H c i) (b : But c.a H H') : KeepT H H' := by
  obtain ⟨l, ⟨dx, e⟩, _⟩ := h
  exact fun z xs g => b z _ (fun y => by rw [y, e] at g; cases g) g
theorem CuX.butL {K : PySem.W.Frag} {C : Addr} {H H' : Hp} {c : CuI} {i : Nat} {p : Addr} {ys : List V} (h : CuX K C H c i) (hp : H p = some (.lst ys)) (b : But p H H') (n2 : c.wl ≠ p) : CuX K C H' c i := by
  obtain ⟨l, ⟨dx, e⟩, f, g, k⟩ := h
  exact ⟨l, ⟨dx, b _ _ (fun z => by rw [z, hp] at e; cases e) e⟩, b _ _ n2 f, sqT_lst g hp b, sqT_lst k hp b⟩
theorem CuX.butI {K : PySem.W.Frag} {C D : Addr} {H H' : Hp} {c : CuI} {i : Nat} {p dx : Addr} {fs : List (Str × V)} (h : CuX K C H c i) (hp : H p = some (.ins D dx fs)) (b : But p H H') (n : c.a ≠ p) : CuX K C H' c i := by
  obtain ⟨l, ⟨dx, e⟩, f, g, k⟩ := h
  exact ⟨l, ⟨dx, b _ _ n e⟩, b _ _ (fun z => by rw [z, hp] at f; cases f) f, sqT_ins g hp b, sqT_ins k hp b⟩
/-- what a deed comes to: passed, or refused at the place -/
def DeedX (K : PySem.W.Frag) (C B : Addr) (H : Hp) (c : CuI) (i : Nat) (dd : Deed) (Q : VK) (E : XK) : Prop :=
  (∀ x v, c.ws[i]? = some x → Fit dd x v → ∀ H', But c.a H H' → CuX K C H' c (i + 1) → Q v H') ∧
  ((∀ x v, c.ws[i]? = some x → ¬ Fit dd x v) → ∀ d H', Same H H' → H d = none → H' d = some (.xd [("at", .int (i : Nat))]) → E (.ref B) (some d) H')
theorem here_lt {ws : List Str} {i : Nat} {x : Str} (h : ws[i]? = some x) : i + 1 ≤ ws.length := by
  rcases Nat.lt_or_ge i ws.length with z | z
  · exact z
  · rw [List.getElem?_eq_none z] at h
    cases h

section
open PySem.AutoSeq1 PySem.MeetsSeq PySem.MeetsSeq2 PySem.MeetsSeq3 PySem.SeqAt
/-- list.extend by a tuple of any make -/
theorem ext_list_tup (l : Addr) (items : Array Value) (n : Nat) (b : Addr) (items2 : Array Value) (n2 : Nat) (od : Option Addr) (osl : Array (Option Value)) (hs0 : ¬(!items.isEmpty && Builtin.List.listTooLong (items.size + items2.size)) = true) (hs1 : items.size ≤ sizeLine) (hs2 : items.size + items2.size ≤ sizeLine + 1) :
    Meets (Builtin.«list.extend» ⟨[.ref l, .ref b], []⟩) (fun _ R s => s.heap.get? l = some { cls := .type "list", dict := none, data := .seq items n, slots := #[] } ∧ s.heap.get? b = some { cls := .type "tuple", dict := od, data := .seq items2 n2, slots := osl } ∧ R (.ok (.ret Value.none)) { s with heap := s.heap.update l (Obj.mapSeq fun x => x ++ items2), toks := s.toks }) :=
  .of_wp fun prog w A R s h => by
    obtain ⟨hp, g, d, tk, os⟩ := s; obtain ⟨hl, hb, h⟩ := h; have f1 := PySem.AutoSeq1.idx_int; have f2 := PySem.AutoSeq1.sub_tuple_tuple; have f3 := PySem.AutoSeq1.sub_list_list; have f4 := PySem.AutoSeq1.sub_tuple_list; have f5 := PySem.AutoSeq1.sub_list_tuple;
    have hz' : (items ++ items2).size ≤ sizeLine + 1 := by rw [Array.size_append]; exact hs2
    wp_walk using (wpAny_updateSeq hl rfl (hz := hs1) (_hz' := hz')), wpAny_loadPart' hl, wpAny_loadPart' hb; exact ⟨_, rfl, h⟩
end
section
variable {X : Cx}
def rExtT (K : PySem.W.Frag) : V → List V → Hp → VK → Prop := fun x vs H Q => ∃ l b xs zs, x = .ref l ∧ vs = [.ref b] ∧ H l = some (.lst xs) ∧ SqT K H b zs ∧ xs.length + zs.length ≤ sizeLine ∧ Q .non (upd H l (.lst (xs ++ zs)))
theorem mt_extendT : MtM X "list.extend" (rExtT X.K) := by
  intro pins s σ H x vs v us Q I rx rv h
  obtain ⟨l, b, xs, zs, rfl, rfl, hH, hB, hz, q⟩ := h
  cases rx
  obtain ⟨u, rfl, ru⟩ := rv.one
  cases ru
  obtain ⟨z, its, n, r, hl, e⟩ := I.lstM hH
  obtain ⟨its2, r2, ⟨⟨oc, od, oda, osl⟩, g1, g2, n2, g3⟩, hl2⟩ := I.tuple hB
  simp only at g2 g3
  subst g2 g3
  have e2 := r2.length
  have e1 := r.length
  have hsz : its.toArray.size + its2.toArray.size ≤ sizeLine := by rw [List.size_toArray, List.size_toArray]; omega
  have hlong : ¬ (!its.toArray.isEmpty && Builtin.List.listTooLong (its.toArray.size + its2.toArray.size)) = true := by
    rw [notLongL hsz, Bool.and_false]
    exact Bool.false_ne_true
  refine call_meets F.slot_list_extend ⟨_, e, rfl⟩ F.entry_list_extend (F.args_list_extend_2 _ _)
    (ext_list_tup l its.toArray n b its2.toArray n2 od osl hlong (by rw [List.size_toArray]; omega) (by omega)) ⟨e, g1, ?_⟩
  refine ⟨.non, _, I.lset (its' := its ++ its2) hH e (by simp) (r.append r2) ?_, rfl, q⟩
  rw [List.length_append]
  omega
end


/-! ### reading an expression -/
inductive RdR where
  | ok (e : Ex) (j : Nat)
  | bad (j : Nat)
@[irreducible] def numOf (x : Str) : Option Nat := (List.range 65536).find? fun n => decide (x.cps.toList = TL.numL n)
theorem numOf_some {x : Str} {n : Nat} (h : n ≤ 65535) (e : x.cps.toList = TL.numL n) : numOf x = some n := by
  unfold numOf
  cases f : (List.range 65536).find? (fun n => decide (x.cps.toList = TL.numL n)) with
  | none =>
    have := List.find?_eq_none.mp f n (List.mem_range.mpr (by omega))
    exact absurd (decide_eq_true e) this
  | some m =>
    have t : (fun n => decide (x.cps.toList = TL.numL n)) m = true := List.find?_some (p := fun n => decide (x.cps.toList = TL.numL n)) f
    rw [TL.numL_inj (e.symm.trans (of_decide_eq_true t))]
theorem numOf_none {x : Str} (h : ∀ n : Nat, n ≤ 65535 → x.cps.toList ≠ TL.numL n) : numOf x = none := by
  unfold numOf
  exact List.find?_eq_none.mpr fun n m z => h n (by have := List.mem_range.mp m; omega) (of_decide_eq_true z)
theorem numOf_of {x : Str} {n : Nat} (h : numOf x = some n) : n ≤ 65535 ∧ x.cps.toList = TL.numL n := by
  unfold numOf at h
  have := List.mem_range.mp (List.mem_of_find?_eq_some h)
  have t : (fun n => decide (x.cps.toList = TL.numL n)) n = true := List.find?_some (p := fun n => decide (x.cps.toList = TL.numL n)) h
  exact ⟨by omega, of_decide_eq_true t⟩
def opens (se po : Bool) (room : Nat) : List Str := (if se = true then (["long"] : List Str) else []) ++ (if 1 < room then opL ++ (if po = true then (["pick"] : List Str) else []) ++ (if se = true then (["view"] : List Str) else []) else [])
def twoR (f : Ex → Ex → Ex) (g : Nat → RdR) (i : Nat) : RdR := match g i with
  | .bad j => .bad j
  | .ok a j => match g j with
    | .bad j' => .bad j'
    | .ok b j' => .ok (f a b) j'
def oneR (f : Ex → Ex) (g : Nat → RdR) (i : Nat) : RdR := match g i with
  | .bad j => .bad j
  | .ok a j => .ok (f a) j
def partsR (c : CuI) (g : Nat → RdR) (x : Str) (i : Nat) : RdR :=
  if x = "long" then .ok .long i else if x = "view" then oneR .view g i
  else if x = "pick" then (match c.ws[i]? with
    | none => .bad i
    | some o => if o ∈ c.ops then twoR (.pick o) g (i + 1) else .bad i)
  else twoR (.op x) g i
def readM (c : CuI) : Nat → Nat → RdR
  | 0, i => .bad i
  | k + 1, i => match c.ws[i]? with
    | none => .bad i
    | some x => if x ∈ c.vars then .ok (.var x) (i + 1) else if x ∈ opens c.se (!c.ops.isEmpty) (k + 1) then partsR c (readM c k) x (i + 1)
      else match numOf x with
        | some n => .ok (.num n) (i + 1)
        | none => .bad i
/-- what a reading comes to -/
def RdK (K : PySem.W.Frag) (C B : Addr) (H : Hp) (c : CuI) (r : RdR) (Q : VK) (E : XK) : Prop := match r with
  | .ok e j => ∀ v H', But c.a H H' → Ev H' v e → CuX K C H' c j → Q v H'
  | .bad j => ∀ d H', But c.a H H' → H' d = some (.xd [("at", .int (j : Nat))]) → E (.ref B) (some d) H'
theorem RdK.mono {K : PySem.W.Frag} {C B : Addr} {H H1 : Hp} {c : CuI} {r : RdR} {Q : VK} {E : XK} (b : But c.a H H1) (h : RdK K C B H c r Q E) : RdK K C B H1 c r Q E := by
  cases r with
  | ok e j => exact fun v H' b1 ev cu => h v H' (b.trans b1) ev cu
  | bad j => exact fun d H' b1 hd => h d H' (b.trans b1) hd
/-! ### the words of an expression -/
def Ex.rows : Ex → Nat → List (Str × Nat)
  | .num n, l => [(Str.ofString (toString n), l)]
  | .var x, l => [(x, l)]
  | .long, l => [("long", l)]
  | .view e, l => ("view", l + 1) :: e.rows (l + 1)
  | .pick x a b, l => ("pick", l + 1) :: (x, l) :: (a.rows (l + 1) ++ b.rows (l + 1))
  | .op s a b, l => (s, l + 1) :: (a.rows (l + 1) ++ b.rows (l + 1))
def Ex.words : Ex → List Str
  | .num n => [Str.ofString (toString n)]
  | .var x => [x]
  | .long => ["long"]
  | .view e => "view" :: e.words
  | .pick x a b => "pick" :: x :: (a.words ++ b.words)
  | .op s a b => s :: (a.words ++ b.words)
theorem rows_words : ∀ (e : Ex) (l : Nat), (e.rows l).map (·.1) = e.words
  | .num _, _ => rfl
  | .var _, _ => rfl
  | .long, _ => rfl
  | .view e, l => by
    show ("view" : Str) :: (e.rows (l + 1)).map (·.1) = ("view" : Str) :: e.words
    rw [rows_words e]
  | .pick x a b, l => by
    show ("pick" : Str) :: x :: (a.rows (l + 1) ++ b.rows (l + 1)).map (·.1) = ("pick" : Str) :: x :: (a.words ++ b.words)
    rw [List.map_append, rows_words a, rows_words b]
  | .op s a b, l => by
    show s :: (a.rows (l + 1) ++ b.rows (l + 1)).map (·.1) = s :: (a.words ++ b.words)
    rw [List.map_append, rows_words a, rows_words b]
theorem deep_posR (e : Ex) : 0 < e.deep := by cases e <;> simp [Ex.deep]
theorem two_max (a b : Nat) : 2 ^ (a + 1) ≤ 2 ^ (max a b + 1) ∧ 2 ^ (b + 1) ≤ 2 ^ (max a b + 1) := ⟨Nat.pow_le_pow_right (by decide) (by omega), Nat.pow_le_pow_right (by decide) (by omega)⟩
theorem words_len : ∀ e : Ex, e.words.length + 2 ≤ 2 ^ (e.deep + 1)
  | .num _ => (by show 1 + 2 ≤ 2 ^ 2; decide)
  | .var _ => (by show 1 + 2 ≤ 2 ^ 2; decide)
  | .long => (by show 1 + 2 ≤ 2 ^ 2; decide)
  | .view e => by
    have := words_len e
    show e.words.length + 1 + 2 ≤ 2 ^ (e.deep + 1 + 1)
    rw [Nat.pow_succ]
    omega
  | .pick x a b => by
    have h1 := words_len a
    have h2 := words_len b
    obtain ⟨m1, m2⟩ := two_max a.deep b.deep
    show (a.words ++ b.words).length + 1 + 1 + 2 ≤ 2 ^ (max a.deep b.deep + 1 + 1)
    rw [Nat.pow_succ, List.length_append]
    omega
  | .op s a b => by
    have h1 := words_len a
    have h2 := words_len b
    obtain ⟨m1, m2⟩ := two_max a.deep b.deep
    show (a.words ++ b.words).length + 1 + 2 ≤ 2 ^ (max a.deep b.deep + 1 + 1)
    rw [Nat.pow_succ, List.length_append]
    omega
theorem words_le {e : Ex} {n : Nat} (h : e.deep ≤ n) : e.words.length + 2 ≤ 2 ^ (n + 1) := Nat.le_trans (words_len e) (Nat.pow_le_pow_right (by decide) (by omega))
/-- only a brain's expressions see -/
def Ex.Se (se : Bool) : Ex → Prop
  | .num _ => True
  | .var _ => True
  | .long => se = true
  | .view e => se = true ∧ e.Se se
  | .pick _ a b => a.Se se ∧ b.Se se
  | .op _ a b => a.Se se ∧ b.Se se
/-- the first row that is too deep -/
def fbad (b : Nat) : List (Str × Nat) → Option Nat
  | [] => none
  | q :: r => if b < q.2 then some 0 else (fbad b r).map (· + 1)
theorem fbad_app (b : Nat) : ∀ (xs ys : List (Str × Nat)), fbad b (xs ++ ys) = match fbad b xs with
    | some j => some j
    | none => (fbad b ys).map (· + xs.length)
  | [], ys => by
    show fbad b ys = (fbad b ys).map (· + 0)
    cases fbad b ys <;> rfl
  | q :: r, ys => by
    have ih := fbad_app b r ys
    show (if b < q.2 then some 0 else (fbad b (r ++ ys)).map (· + 1)) = match (if b < q.2 then some 0 else (fbad b r).map (· + 1)) with
      | some j => some j
      | none => (fbad b ys).map (· + (r.length + 1))
    by_cases h : b < q.2
    · rw [if_pos h, if_pos h]
    · rw [if_neg h, if_neg h, ih]
      cases fbad b r with
      | some j => rfl
      | none =>
        cases fbad b ys with
        | none => rfl
        | some j => rfl
def SubAt (ws : List Str) (i : Nat) (xs : List Str) : Prop := ∀ (j : Nat) (x : Str), xs[j]? = some x → ws[i + j]? = some x
theorem SubAt.head {ws : List Str} {i : Nat} {x : Str} {xs : List Str} (h : SubAt ws i (x :: xs)) : ws[i]? = some x := h 0 x rfl
theorem SubAt.tail {ws : List Str} {i : Nat} {x : Str} {xs : List Str} (h : SubAt ws i (x :: xs)) : SubAt ws (i + 1) xs := fun j y e => by
  have := h (j + 1) y (by rw [List.getElem?_cons_succ]; exact e)
  rw [show i + 1 + j = i + (j + 1) by omega]
  exact this
theorem SubAt.left {ws : List Str} {i : Nat} {xs ys : List Str} (h : SubAt ws i (xs ++ ys)) : SubAt ws i xs := fun j y e => h j y (by
  rcases Nat.lt_or_ge j xs.length with z | z
  · rw [List.getElem?_append_left z]
    exact e
  · rw [List.getElem?_eq_none z] at e
    cases e)
theorem SubAt.right {ws : List Str} {i : Nat} {xs ys : List Str} (h : SubAt ws i (xs ++ ys)) : SubAt ws (i + xs.length) ys := fun j y e => by
  have := h (xs.length + j) y (by rw [List.getElem?_append_right (by omega), Nat.add_sub_cancel_left]; exact e)
  rw [Nat.add_assoc]
  exact this
theorem SubAt.mid (as xs bs : List Str) : SubAt (as ++ xs ++ bs) as.length xs := fun j y e => by
  have l : j < xs.length := by
    rcases Nat.lt_or_ge j xs.length with z | z
    · exact z
    · rw [List.getElem?_eq_none z] at e
      cases e
  rw [List.getElem?_append_left (by rw [List.length_append]; omega), List.getElem?_append_right (by omega), Nat.add_sub_cancel_left]
  exact e
def openAll : List Str := (["long", "view", "pick"] : List Str) ++ opL
theorem opens_all {se po : Bool} {room : Nat} {x : Str} (h : x ∈ opens se po room) : x ∈ openAll := by
  unfold opens at h
  unfold openAll
  have e1 : x ∈ (["long"] : List Str) → x ∈ ((["long", "view", "pick"] : List Str) ++ opL) := fun m => by simp_all
  have e2 : x ∈ (["pick"] : List Str) → x ∈ ((["long", "view", "pick"] : List Str) ++ opL) := fun m => by simp_all
  have e3 : x ∈ (["view"] : List Str) → x ∈ ((["long", "view", "pick"] : List Str) ++ opL) := fun m => by simp_all
  rcases List.mem_append.mp h with h | h
  · split at h
    · exact e1 h
    · cases h
  · split at h
    · rcases List.mem_append.mp h with h | h
      · rcases List.mem_append.mp h with h | h
        · exact List.mem_append_right _ h
        · split at h
          · exact e2 h
          · cases h
      · split at h
        · exact e3 h
        · cases h
    · cases h
theorem nm_head {x : Str} (h : Nm x) : x ∉ kwL ∧ ∃ d r, x.cps.toList = d :: r ∧ 97 ≤ d ∧ d ≤ 122 := by
  obtain ⟨⟨d, r, e, l, _⟩, k⟩ := h
  exact ⟨k, d, r, e, l.1, l.2⟩
theorem nm_open {x : Str} (h : Nm x) : x ∉ openAll := fun m => by
  have t : openAll.all (fun s => decide (s ∈ kwL) || !(decide (97 ≤ s.cps.toList.headD 0) && decide (s.cps.toList.headD 0 ≤ 122))) = true := by decide +kernel
  have := List.all_eq_true.mp t x m
  obtain ⟨k, d, r, e, l1, l2⟩ := nm_head h
  rw [e, decide_eq_false k] at this
  simp [l1, l2] at this
theorem open_num {x : Str} (m : x ∈ openAll) : numOf x = none := by
  refine numOf_none fun n _ e => ?_
  have t : openAll.all (fun s => decide (s.cps.toList ≠ [] ∧ ¬ (48 ≤ s.cps.toList.headD 0 ∧ s.cps.toList.headD 0 ≤ 57))) = true := by decide +kernel
  obtain ⟨t1, t2⟩ := of_decide_eq_true (List.all_eq_true.mp t x m)
  cases f : x.cps.toList with
  | nil => exact t1 f
  | cons d r =>
    rw [f] at t2
    exact t2 (TL.numL_digits n d (by rw [← e, f]; exact List.mem_cons_self))
theorem num_head {x : Str} {n : Nat} (e : x.cps.toList = TL.numL n) : (∃ d r, x.cps.toList = d :: r ∧ 48 ≤ d ∧ d ≤ 57) := by
  cases f : x.cps.toList with
  | nil =>
    rw [f] at e
    have := congrArg NumText.digitsVal e
    rw [TL.numL_val] at this
    have hn : n = 0 := this.symm
    subst hn
    exact absurd e.symm (by decide +kernel)
  | cons d r => exact ⟨d, r, rfl, TL.numL_digits n d (by rw [← e, f]; exact List.mem_cons_self)⟩
theorem nm_num {x : Str} (h : Nm x) : numOf x = none := numOf_none fun n _ e => by
  obtain ⟨_, d, r, f, l1, l2⟩ := nm_head h
  obtain ⟨d', r', f', l3, l4⟩ := num_head e
  rw [f] at f'
  cases f'
  omega
theorem num_open {x : Str} {n : Nat} (h : n ≤ 65535) (e : x.cps.toList = TL.numL n) : x ∉ openAll := fun m => by
  have := open_num m
  rw [numOf_some h e] at this
  cases this
theorem opens_in {se po : Bool} {k : Nat} {s : Str} (h : s ∈ opL ∨ (po = true ∧ s = "pick") ∨ (se = true ∧ s = "view")) : s ∈ opens se po (k + 2) := by
  unfold opens
  rw [if_pos (show 1 < k + 2 by omega)]
  refine List.mem_append_right _ ?_
  rcases h with h | ⟨rfl, rfl⟩ | ⟨rfl, rfl⟩
  · exact List.mem_append_left _ (List.mem_append_left _ h)
  · rw [if_pos rfl]
    exact List.mem_append_left _ (List.mem_append_right _ List.mem_cons_self)
  · rw [if_pos rfl]
    exact List.mem_append_right _ List.mem_cons_self
theorem opens_one {se po : Bool} {s : Str} (h : s ≠ "long") : s ∉ opens se po 1 := fun m => by
  unfold opens at m
  rw [if_neg (show ¬ 1 < 1 by omega), List.append_nil] at m
  split at m
  · exact h (List.mem_singleton.mp m)
  · cases m
theorem ops_kind {s : Str} (h : s ∈ opL) : s ∈ openAll ∧ s ≠ "long" ∧ s ≠ "view" ∧ s ≠ "pick" := ⟨List.mem_append_right _ h, (opL_ne h).2.2.1, (opL_ne h).2.2.2.1, (opL_ne h).2.2.2.2⟩
def fin (e : Ex) (i n : Nat) : Option Nat → RdR
  | none => .ok e (i + n)
  | some j => .bad (i + j)
/-- an expression at its words is read, or refused at the first word that is too deep -/
theorem read_rows {c : CuI} (hv : ∀ x ∈ c.vars, Nm x) : ∀ (e : Ex) (room l i b : Nat), e.Wf c.vars c.ops → e.Se c.se → 1 ≤ room → b + 1 = l + room → SubAt c.ws i ((e.rows l).map (·.1)) →
    readM c room i = fin e i (e.rows l).length (fbad b (e.rows l)) := by
  have vo : ∀ {s : Str}, s ∈ openAll → s ∉ c.vars := fun m z => nm_open (hv _ z) m
  have first : ∀ {s : Str} {i : Nat}, c.ws[i]? = some s → s ∈ openAll → s ≠ "long" → readM c 1 i = .bad i := fun {s i} e m n => by
    unfold readM
    rw [e]
    show (if s ∈ c.vars then _ else if s ∈ opens c.se (!c.ops.isEmpty) 1 then _ else _) = _
    rw [if_neg (vo m), if_neg (opens_one n), open_num m]
  have go : ∀ {s : Str} {k i : Nat}, c.ws[i]? = some s → s ∈ openAll → s ∈ opens c.se (!c.ops.isEmpty) (k + 1) → readM c (k + 1) i = partsR c (readM c k) s (i + 1) := fun {s k i} e m o => by
    unfold readM
    rw [e]
    show (if s ∈ c.vars then _ else if s ∈ opens c.se (!c.ops.isEmpty) (k + 1) then _ else _) = _
    rw [if_neg (vo m), if_pos o]
  have two : ∀ (f : Ex → Ex → Ex) (x y : Ex) (k l b i n : Nat) (xs ys : List (Str × Nat)), readM c k (i + n) = fin x (i + n) xs.length (fbad b xs) → (fbad b xs = none → readM c k (i + n + xs.length) = fin y (i + n + xs.length) ys.length (fbad b ys)) →
      twoR f (readM c k) (i + n) = fin (f x y) i (n + (xs.length + ys.length)) ((fbad b (xs ++ ys)).map (· + n)) := fun f x y k l b i n xs ys h1 h2 => by
    unfold twoR
    rw [fbad_app, h1]
    cases e1 : fbad b xs with
    | some j =>
      show RdR.bad (i + n + j) = RdR.bad (i + (j + n))
      rw [show i + n + j = i + (j + n) by omega]
    | none =>
      show (match readM c k (i + n + xs.length) with
        | .bad j' => RdR.bad j'
        | .ok b j' => .ok (f x b) j') = _
      rw [h2 e1]
      cases e2 : fbad b ys with
      | some j =>
        show RdR.bad (i + n + xs.length + j) = RdR.bad (i + (j + xs.length + n))
        rw [show i + n + xs.length + j = i + (j + xs.length + n) by omega]
      | none =>
        show RdR.ok (f x y) (i + n + xs.length + ys.length) = RdR.ok (f x y) (i + (n + (xs.length + ys.length)))
        rw [show i + n + xs.length + ys.length = i + (n + (xs.length + ys.length)) by omega]
  intro e
  induction e with
  | num n =>
    intro room l i b wf _ hr hb hs
    obtain ⟨k, rfl⟩ : ∃ k, room = k + 1 := ⟨room - 1, by omega⟩
    obtain ⟨m, rfl⟩ : ∃ m : Nat, n = (m : Int) := ⟨n.toNat, by have := wf.1; omega⟩
    have hm : m ≤ 65535 := by have := wf.2; omega
    have en : (Str.ofString (toString ((m : Nat) : Int))).cps.toList = TL.numL m := TL.tl_num m
    have h0 : c.ws[i]? = some (Str.ofString (toString ((m : Nat) : Int))) := hs.head
    unfold readM
    rw [h0]
    show (if Str.ofString (toString ((m : Nat) : Int)) ∈ c.vars then _ else if Str.ofString (toString ((m : Nat) : Int)) ∈ opens c.se (!c.ops.isEmpty) (k + 1) then _ else _) = _
    rw [if_neg (fun z => by have := nm_num (hv _ z); rw [numOf_some hm en] at this; cases this), if_neg (fun z => num_open hm en (opens_all z)), numOf_some hm en]
    show _ = fin _ i 1 (if b < l then some 0 else none)
    rw [if_neg (by omega)]
    rfl
  | var x =>
    intro room l i b wf _ hr hb hs
    obtain ⟨k, rfl⟩ : ∃ k, room = k + 1 := ⟨room - 1, by omega⟩
    have h0 : c.ws[i]? = some x := hs.head
    unfold readM
    rw [h0]
    show (if x ∈ c.vars then _ else _) = fin _ i 1 (if b < l then some 0 else none)
    rw [if_pos (show x ∈ c.vars from wf), if_neg (by omega)]
    rfl
  | long =>
    intro room l i b wf se hr hb hs
    obtain ⟨k, rfl⟩ : ∃ k, room = k + 1 := ⟨room - 1, by omega⟩
    have h0 : c.ws[i]? = some "long" := hs.head
    have hse : c.se = true := se
    rw [go h0 (by decide +kernel) (by unfold opens; rw [if_pos hse]; exact List.mem_append_left _ List.mem_cons_self)]
    show _ = fin _ i 1 (if b < l then some 0 else none)
    rw [if_neg (by omega)]
    unfold partsR
    rw [if_pos rfl]
    rfl
  | view e ih =>
    intro room l i b wf se hr hb hs
    obtain ⟨k, rfl⟩ : ∃ k, room = k + 1 := ⟨room - 1, by omega⟩
    have h0 : c.ws[i]? = some "view" := hs.head
    obtain ⟨nl, nv, np⟩ : ("view" : Str) ≠ "long" ∧ ("view" : Str) ∈ openAll ∧ ("pick" : Str) ≠ "view" := by decide +kernel
    show _ = fin _ i ((e.rows (l + 1)).length + 1) (if b < l + 1 then some 0 else (fbad b (e.rows (l + 1))).map (· + 1))
    cases k with
    | zero =>
      rw [first h0 nv nl, if_pos (by omega)]
      rfl
    | succ k =>
      rw [go h0 nv (opens_in (.inr (.inr ⟨se.1, rfl⟩))), if_neg (by omega)]
      unfold partsR oneR
      rw [if_neg nl, if_pos rfl, ih (k + 1) (l + 1) (i + 1) b wf se.2 (by omega) (by omega) hs.tail]
      cases fbad b (e.rows (l + 1)) with
      | none =>
        show RdR.ok _ (i + 1 + _) = RdR.ok _ (i + (_ + 1))
        rw [show i + 1 + (e.rows (l + 1)).length = i + ((e.rows (l + 1)).length + 1) by omega]
      | some j =>
        show RdR.bad (i + 1 + j) = RdR.bad (i + (j + 1))
        rw [show i + 1 + j = i + (j + 1) by omega]
  | op s x y ihx ihy =>
    intro room l i b wf se hr hb hs
    obtain ⟨k, rfl⟩ : ∃ k, room = k + 1 := ⟨room - 1, by omega⟩
    have h0 : c.ws[i]? = some s := hs.head
    obtain ⟨so, nl, nv, np⟩ := ops_kind wf.1
    show _ = fin _ i ((x.rows (l + 1) ++ y.rows (l + 1)).length + 1) (if b < l + 1 then some 0 else (fbad b (x.rows (l + 1) ++ y.rows (l + 1))).map (· + 1))
    cases k with
    | zero =>
      rw [first h0 so nl, if_pos (by omega)]
      rfl
    | succ k =>
      rw [go h0 so (opens_in (.inl wf.1)), if_neg (by omega)]
      unfold partsR
      have ht := hs.tail
      rw [List.map_append] at ht
      rw [if_neg nl, if_neg nv, if_neg np, two (.op s) x y (k + 1) l b i 1 _ _ (ihx (k + 1) (l + 1) (i + 1) b wf.2.1 se.1 (by omega) (by omega) ht.left) fun _ => ihy (k + 1) (l + 1) (i + 1 + (x.rows (l + 1)).length) b wf.2.2 se.2 (by omega) (by omega) (by
        have := ht.right
        rw [List.length_map] at this
        exact this), List.length_append, Nat.add_comm 1]
  | pick z x y ihx ihy =>
    intro room l i b wf se hr hb hs
    obtain ⟨k, rfl⟩ : ∃ k, room = k + 1 := ⟨room - 1, by omega⟩
    have h0 : c.ws[i]? = some "pick" := hs.head
    have h1 : c.ws[i + 1]? = some z := hs.tail.head
    obtain ⟨nl, nv, np⟩ : ("pick" : Str) ≠ "long" ∧ ("pick" : Str) ∈ openAll ∧ ("pick" : Str) ≠ "view" := by decide +kernel
    have po : (!c.ops.isEmpty) = true := by
      cases e : c.ops with
      | nil => have := wf.1; rw [e] at this; cases this
      | cons _ _ => rfl
    show _ = fin _ i ((x.rows (l + 1) ++ y.rows (l + 1)).length + 1 + 1) (if b < l + 1 then some 0 else (if b < l then some 0 else (fbad b (x.rows (l + 1) ++ y.rows (l + 1))).map (· + 1)).map (· + 1))
    cases k with
    | zero =>
      rw [first h0 nv nl, if_pos (by omega)]
      rfl
    | succ k =>
      rw [go h0 nv (opens_in (.inr (.inl ⟨po, rfl⟩))), if_neg (by omega), if_neg (by omega)]
      unfold partsR
      have ht := hs.tail.tail
      rw [List.map_append] at ht
      rw [if_neg nl, if_neg np, if_pos rfl, h1]
      show (if z ∈ c.ops then twoR (Ex.pick z) (readM c (k + 1)) (i + 1 + 1) else _) = _
      rw [if_pos wf.1, show i + 1 + 1 = i + 2 from rfl, two (.pick z) x y (k + 1) l b i 2 _ _ (ihx (k + 1) (l + 1) (i + 2) b wf.2.1 se.1 (by omega) (by omega) ht.left) fun _ => ihy (k + 1) (l + 1) (i + 2 + (x.rows (l + 1)).length) b wf.2.2 se.2 (by omega) (by omega) (by
        have := ht.right
        rw [List.length_map] at this
        exact this), List.length_append, Nat.add_comm 2]
      cases fbad b (x.rows (l + 1) ++ y.rows (l + 1)) <;> rfl
theorem inV_non : ∀ {l : List Str}, inV .non (l.map V.str) = false
  | [] => rfl
  | y :: r => by
    have ih := inV_non (l := r)
    unfold inV at ih ⊢
    rw [List.map_cons, List.any_cons, ih]
    rfl
theorem here_flat {ws : List Str} {i : Nat} : flatV (hereV ws i) = true := by
  unfold hereV
  split <;> rfl
theorem same_at {H H' : Hp} {S : Addr} {o : HO} (s : Same H H') (f : H S = none) : Same H (upd H' S o) := fun b x e => by
  rw [upd_ne (ne_of_none e f)]
  exact s _ _ e
theorem paired_app {α β : Type} {R : α → β → Prop} : ∀ {xs zs : List α} {ys ws : List β}, Paired R xs ys → Paired R zs ws → Paired R (xs ++ zs) (ys ++ ws)
  | _, _, _, _, .nil, b => b
  | _, _, _, _, .cons h a, b => .cons h (paired_app a b)
theorem pgetC {α β : Type} {R : α → β → Prop} : ∀ {xs : List α} {ys : List β} {i : Nat} {x : α}, Paired R xs ys → xs[i]? = some x → ∃ y, ys[i]? = some y ∧ R x y
  | _, _, i, x, .nil, e => by simp at e
  | _, _, 0, x, .cons r _, e => by
    cases e
    exact ⟨_, rfl, r⟩
  | _, _, i + 1, x, .cons _ t, e => by
    rw [List.getElem?_cons_succ] at e
    rw [List.getElem?_cons_succ]
    exact pgetC t e
theorem paired_len {α β : Type} {R : α → β → Prop} : ∀ {xs : List α} {ys : List β}, Paired R xs ys → xs.length = ys.length
  | _, _, .nil => rfl
  | _, _, .cons _ t => by rw [List.length_cons, List.length_cons, paired_len t]


/-! ### methods of tuples that the program has made: they are tracked with their object -/
def FT (H : Hp) (a : Addr) (xs : List V) : Prop := ∃ o : Obj, H a = some (.frz o (.tup xs)) ∧ o.cls = .type "tuple" ∧ o.dict = none
theorem FT.sq {K : PySem.W.Frag} {H : Hp} {a : Addr} {xs : List V} (h : FT H a xs) : SqT K H a xs := by
  obtain ⟨o, h, _⟩ := h
  exact .inl (.inr ⟨o, h⟩)
theorem FT.same {H H' : Hp} {a : Addr} {xs : List V} (h : FT H a xs) (s : Same H H') : FT H' a xs := by
  obtain ⟨o, h, g⟩ := h
  exact ⟨o, s _ _ h, g⟩
section
variable {X : Cx}
def tyTu (K : PySem.W.Frag) (x : V) (H : Hp) : Prop := ∃ p, x = .ref p ∧ ((∃ xs, FT H p xs) ∨ ∃ o, K.lookup p = some o ∧ o.cls = .type "tuple" ∧ o.dict = none)
theorem ty_tu : TyOk X "tuple" (tyTu X.K) := by
  intro pins σ H s x v I r h
  obtain ⟨p, rfl, ⟨xs, o, hp, hc, hd⟩ | ⟨o, hk, hc, hd⟩⟩ := h
  · cases r
    obtain ⟨g, _⟩ := I.hok p _ hp
    exact ⟨⟨o, g, hc⟩, fun a e => by cases e; exact ⟨o, g, hd⟩⟩
  · cases r
    have g := I.kIn p o hk
    exact ⟨⟨o, g, hc⟩, fun a e => by cases e; exact ⟨o, g, hd⟩⟩
theorem call_tuple_frz : CallR X (.type "tuple") (fun xs H Q => ∃ p ys, xs = [.ref p] ∧ SqL X.K H p ys ∧ ∀ l o, H l = none → o.cls = .type "tuple" → o.dict = none → Q (.ref l) (upd H l (.frz o (.tup ys)))) := by
  intro pins s σ H xs us Q I r h
  obtain ⟨p, ys, rfl, hq, q⟩ := h
  obtain ⟨u, rfl, rx⟩ := vals1 r
  cases rx
  obtain ⟨its, r', pl, hz⟩ := I.list hq
  have hlen := r'.length
  refine call_tuple_list pl.isList (fun h' kp => ?_) (by simp only [List.size_toArray] <;> omega)
  have I1 : Inv X pins σ H { s with heap := h' } := I.kept (t' := s.toks) kp
  have I2 : Inv X pins σ (upd H h'.objs.size (.frz { cls := .type "tuple", data := .seq its.toArray } (.tup ys))) { s with heap := h'.push { cls := .type "tuple", data := .seq its.toArray } } :=
    I1.laid (t' := s.toks) (fun b o e => Heap.get?_push_of_some _ e) (Nat.le_refl _) (show ObjOk X.prog X.w _ _ _ (.frz _ (.tup ys)) from ⟨Heap.get?_push_size _ rfl, hz, its, r', IsTup.new _ _⟩)
  exact ⟨.ref h'.objs.size, _, I2, rfl, q _ _ (I1.hok.fresh (Nat.le_refl _)) rfl rfl⟩
def tTupF (t : TA) : TE := fun σ H Q => t σ H fun xs H1 => xs.length ≤ sizeLine ∧ ∀ p o, H1 p = none → o.cls = .type "tuple" → o.dict = none → Q (.ref p) (upd H1 p (.frz o (.tup xs)))
theorem pe_tupF {es : List Expr} {t : TA} {x1 : Nat} {pos : Pos} (h : PA X es t) : PE X (.Tuple es x1 pos) (tTupF t) := by
  refine ⟨fun pins s σ H Q I hq => ?_⟩
  refine wpAny_Tuple_spliced (thn (h.run pos pins s σ H _ I hq) fun us s1 ⟨xs, H1, I1, r, z, q⟩ => ⟨by rw [← r.length]; exact z, ?_⟩)
  have hf : H1 s1.heap.objs.size = none := I1.hok.fresh (Nat.le_refl _)
  refine ⟨.ref s1.heap.objs.size, upd H1 s1.heap.objs.size (.frz { cls := .type "tuple", data := .seq us.toArray } (.tup xs)), I1.laid (t' := s1.toks) (fun b u e => Heap.get?_push_of_some _ e) (Nat.le_refl _) ?_, rfl, q _ _ hf rfl rfl⟩
  exact ⟨Heap.get?_push_size _ rfl, z, us, r, ⟨_, Heap.get?_push_size _ rfl, rfl, _, rfl⟩⟩
end


/-! ### tuples of the program's own run, or of its top -/
def TpK (K : PySem.W.Frag) (H : Hp) (a : Addr) (xs : List V) : Prop := H a = some (.tup xs) ∨ ((∃ o, K.lookup a = some o ∧ o.cls = .type "tuple") ∧ ∀ H', SqT K H' a xs)
theorem TpK.sq {K : PySem.W.Frag} {H : Hp} {a : Addr} {xs : List V} (h : TpK K H a xs) : SqT K H a xs := by
  rcases h with h | h
  · exact SqT.of h
  · exact h.2 H
theorem TpK.keep {K : PySem.W.Frag} {H H' : Hp} {a : Addr} {xs : List V} (k : KeepT H H') (h : TpK K H a xs) : TpK K H' a xs := by
  rcases h with h | h
  · exact .inl (k _ _ h)
  · exact .inr h
theorem TpK.ty {K : PySem.W.Frag} {H : Hp} {a : Addr} {xs : List V} (h : TpK K H a xs) : TyX K H (.ref a) (.type "tuple") := by
  rcases h with h | ⟨⟨o, e, c⟩, _⟩
  · exact .base (.tup h)
  · exact .kTuple e c
inductive DaK (K : PySem.W.Frag) (H : Hp) : V → PyData → Prop
  | non : DaK K H .non .none
  | bl (b : Bool) : DaK K H (.bl b) (.bool b)
  | int (i : Int) : DaK K H (.int i) (.int i)
  | str (x : Str) : DaK K H (.str x) (.str x)
  | tup {a : Addr} {xs : List V} {ds : List PyData} : TpK K H a xs → xs.length = ds.length → (∀ (i : Nat) v d, xs[i]? = some v → ds[i]? = some d → DaK K H v d) → DaK K H (.ref a) (.tuple ds)
  | lst {a : Addr} {xs : List V} {ds : List PyData} : H a = some (.lst xs) → xs.length = ds.length → (∀ (i : Nat) v d, xs[i]? = some v → ds[i]? = some d → DaK K H v d) → DaK K H (.ref a) (.list ds)
theorem Da.toK {K : PySem.W.Frag} {H : Hp} {v : V} {d : PyData} (h : Da H v d) : DaK K H v d := by
  induction h with
  | non => exact .non
  | bl b => exact .bl b
  | int i => exact .int i
  | str x => exact .str x
  | tup h l e ih => exact .tup (.inl h) l ih
  | lst h l e ih => exact .lst h l ih

inductive EvK (K : PySem.W.Frag) (H : Hp) : V → Ex → Prop
  | num {a : Addr} {n : Int} : TpK K H a [.str "number", .int n] → EvK K H (.ref a) (.num n)
  | var {a : Addr} {x : Str} : TpK K H a [.str "variable", .str x] → EvK K H (.ref a) (.var x)
  | long {a : Addr} : TpK K H a [.str "long"] → EvK K H (.ref a) .long
  | view {a : Addr} {v : V} {e : Ex} : TpK K H a [.str "view", v] → EvK K H v e → EvK K H (.ref a) (.view e)
  | pick {a : Addr} {x : Str} {v w : V} {e f : Ex} : TpK K H a [.str "pick", .str x, v, w] → EvK K H v e → EvK K H w f → EvK K H (.ref a) (.pick x e f)
  | op {a : Addr} {s : Str} {v w : V} {e f : Ex} : TpK K H a [.str s, v, w] → EvK K H v e → EvK K H w f → EvK K H (.ref a) (.op s e f)
theorem EvK.keep {K : PySem.W.Frag} {H H' : Hp} (k : KeepT H H') : ∀ {v : V} {e : Ex}, EvK K H v e → EvK K H' v e
  | _, _, .num h => .num (h.keep k)
  | _, _, .var h => .var (h.keep k)
  | _, _, .long h => .long (h.keep k)
  | _, _, .view h a => .view (h.keep k) (EvK.keep k a)
  | _, _, .pick h a b => .pick (h.keep k) (EvK.keep k a) (EvK.keep k b)
  | _, _, .op h a b => .op (h.keep k) (EvK.keep k a) (EvK.keep k b)
theorem Ev.toK {K : PySem.W.Frag} {H : Hp} : ∀ {v : V} {e : Ex}, Ev H v e → EvK K H v e
  | _, _, .num h => .num (.inl h)
  | _, _, .var h => .var (.inl h)
  | _, _, .long h => .long (.inl h)
  | _, _, .view h a => .view (.inl h) (Ev.toK a)
  | _, _, .pick h a b => .pick (.inl h) (Ev.toK a) (Ev.toK b)
  | _, _, .op h a b => .op (.inl h) (Ev.toK a) (Ev.toK b)
/-- an expression as data -/
def Ex.dat : Ex → PyData
  | .num n => .tuple [.str "number", .int n] | .var x => .tuple [.str "variable", .str x] | .long => .tuple [.str "long"] | .view e => .tuple [.str "view", e.dat]
  | .pick x a b => .tuple [.str "pick", .str x, a.dat, b.dat] | .op s a b => .tuple [.str s, a.dat, b.dat]
theorem EvK.dp {K : PySem.W.Frag} {H : Hp} : ∀ {v : V} {e : Ex}, EvK K H v e → Dp K H v e.dat
  | _, _, .num h => .tup h.sq (.cons (.str _) (.cons (.int _) .nil))
  | _, _, .var h => .tup h.sq (.cons (.str _) (.cons (.str _) .nil))
  | _, _, .long h => .tup h.sq (.cons (.str _) .nil)
  | _, _, .view h a => .tup h.sq (.cons (.str _) (.cons (EvK.dp a) .nil))
  | _, _, .pick h a b => .tup h.sq (.cons (.str _) (.cons (.str _) (.cons (EvK.dp a) (.cons (EvK.dp b) .nil))))
  | _, _, .op h a b => .tup h.sq (.cons (.str _) (.cons (EvK.dp a) (.cons (EvK.dp b) .nil)))
theorem DaK.mk {K : PySem.W.Frag} {H : Hp} {a : Addr} {xs : List V} {ds : List PyData} (h : TpK K H a xs) (p : Paired (DaK K H) xs ds) : DaK K H (.ref a) (.tuple ds) := by
  refine .tup h p.length fun i v d h1 h2 => ?_
  have go : ∀ {xs : List V} {ds : List PyData} (i : Nat) (v : V) (d : PyData), Paired (DaK K H) xs ds → xs[i]? = some v → ds[i]? = some d → DaK K H v d := by
    intro xs ds i v d p
    induction p generalizing i with
    | nil => intro h; simp at h
    | cons r t ih =>
      intro h1 h2
      cases i with
      | zero => cases h1; cases h2; exact r
      | succ i => exact ih i (by rw [List.getElem?_cons_succ] at h1; exact h1) (by rw [List.getElem?_cons_succ] at h2; exact h2)
  exact go i v d p h1 h2
theorem EvK.da {K : PySem.W.Frag} {H : Hp} : ∀ {v : V} {e : Ex}, EvK K H v e → DaK K H v e.dat
  | _, _, .num h => .mk h (.cons (.str _) (.cons (.int _) .nil))
  | _, _, .var h => .mk h (.cons (.str _) (.cons (.str _) .nil))
  | _, _, .long h => .mk h (.cons (.str _) .nil)
  | _, _, .view h a => .mk h (.cons (.str _) (.cons (EvK.da a) .nil))
  | _, _, .pick h a b => .mk h (.cons (.str _) (.cons (.str _) (.cons (EvK.da a) (.cons (EvK.da b) .nil))))
  | _, _, .op h a b => .mk h (.cons (.str _) (.cons (EvK.da a) (.cons (EvK.da b) .nil)))
theorem dat_depth : ∀ e : Ex, e.dat.depth = e.deep
  | .num _ => by simp [Ex.dat, PyData.depth, PyData.depthAll, Ex.deep]
  | .var _ => by simp [Ex.dat, PyData.depth, PyData.depthAll, Ex.deep]
  | .long => by simp [Ex.dat, PyData.depth, PyData.depthAll, Ex.deep]
  | .view e => by
    have := dat_depth e
    simp only [Ex.dat, PyData.depth, PyData.depthAll, Ex.deep, this]
    omega
  | .pick x a b => by
    have := dat_depth a
    have := dat_depth b
    simp only [Ex.dat, PyData.depth, PyData.depthAll, Ex.deep, *]
    omega
  | .op s a b => by
    have := dat_depth a
    have := dat_depth b
    simp only [Ex.dat, PyData.depth, PyData.depthAll, Ex.deep, *]
    omega
theorem dat_wide : ∀ e : Ex, wide e.dat = true
  | .num _ => by simp [Ex.dat, wide, wideAll]
  | .var _ => by simp [Ex.dat, wide, wideAll]
  | .long => by simp [Ex.dat, wide, wideAll]
  | .view e => by simp [Ex.dat, wide, wideAll, dat_wide e]
  | .pick x a b => by simp [Ex.dat, wide, wideAll, dat_wide a, dat_wide b]
  | .op s a b => by simp [Ex.dat, wide, wideAll, dat_wide a, dat_wide b]
theorem opL_ok {s : Str} (h : s ∈ opL) : PyData.strOk s = true := by
  have : opL.all PyData.strOk = true := by decide +kernel
  exact List.all_eq_true.mp this s h
theorem dat_lay {ns ps : List Str} (hn : ∀ x ∈ ns, PyData.strOk x = true) (hp : ∀ x ∈ ps, PyData.strOk x = true) : ∀ e : Ex, e.Wf ns ps → e.dat.canLay0 = true
  | .num _, _ => by
    have : PyData.strOk "number" = true := by decide +kernel
    simp [Ex.dat, PyData.canLay0, PyData.canLayAll0, this]
  | .var x, h => by
    have : PyData.strOk "variable" = true := by decide +kernel
    simp [Ex.dat, PyData.canLay0, PyData.canLayAll0, this, hn x h]
  | .long, _ => by
    have : PyData.strOk "long" = true := by decide +kernel
    simp [Ex.dat, PyData.canLay0, PyData.canLayAll0, this]
  | .view e, h => by
    have : PyData.strOk "view" = true := by decide +kernel
    simp [Ex.dat, PyData.canLay0, PyData.canLayAll0, this, dat_lay hn hp e h]
  | .pick x a b, h => by
    have : PyData.strOk "pick" = true := by decide +kernel
    simp [Ex.dat, PyData.canLay0, PyData.canLayAll0, this, hp x h.1, dat_lay hn hp a h.2.1, dat_lay hn hp b h.2.2]
  | .op s a b, h => by
    simp [Ex.dat, PyData.canLay0, PyData.canLayAll0, opL_ok h.1, dat_lay hn hp a h.2.1, dat_lay hn hp b h.2.2]
theorem dat_shaped {ns ps : List Str} (hn : ∀ x ∈ ns, PyData.strOk x = true) (hp : ∀ x ∈ ps, PyData.strOk x = true) {e : Ex} (h : e.Wf ns ps) (d : e.deep ≤ 64) : SeqAt.shaped e.dat = true := by
  unfold SeqAt.shaped
  rw [dat_lay hn hp e h, dat_depth]
  simp [d]
theorem str_beq {a b : Str} : (a == b) = true ↔ a = b := beq_iff_eq
theorem eqv_t (xs ys : List PyData) : PyData.eqv (.tuple xs) (.tuple ys) = PyData.eqvAll xs ys := by simp [PyData.eqv]
theorem eqv_c (x y : PyData) (xs ys : List PyData) : PyData.eqvAll (x :: xs) (y :: ys) = (PyData.eqv x y && PyData.eqvAll xs ys) := by simp [PyData.eqvAll]
theorem eqv_s (a b : Str) : PyData.eqv (.str a) (.str b) = (a == b) := by simp [PyData.eqv]
theorem eqv_i (a b : Int) : PyData.eqv (.int a) (.int b) = (a == b) := by simp [PyData.eqv]
theorem eqv_nn : PyData.eqvAll [] [] = true := by simp [PyData.eqvAll]
theorem eqv_nc (y : PyData) (ys : List PyData) : PyData.eqvAll [] (y :: ys) = false := by simp [PyData.eqvAll]
theorem eqv_cn (y : PyData) (ys : List PyData) : PyData.eqvAll (y :: ys) [] = false := by simp [PyData.eqvAll]
theorem dat_eqv : ∀ a b : Ex, PyData.eqv a.dat b.dat = true → a = b := by
  have v1 : ("variable" : Str) ≠ "number" := by decide +kernel
  have v2 : ("view" : Str) ≠ "number" := by decide +kernel
  have v3 : ("view" : Str) ≠ "variable" := by decide +kernel
  intro a
  induction a with
  | num n => intro b; cases b <;> simp only [Ex.dat, eqv_t, eqv_c, eqv_s, eqv_i, eqv_nn, eqv_nc, eqv_cn, Bool.and_eq_true, beq_iff_eq, v1.symm, v2.symm, false_and, and_false, Bool.false_eq_true, false_implies, and_true, true_and] <;> (intro h; rw [h])
  | var x => intro b; cases b <;> simp only [Ex.dat, eqv_t, eqv_c, eqv_s, eqv_i, eqv_nn, eqv_nc, eqv_cn, Bool.and_eq_true, beq_iff_eq, v1, v3.symm, false_and, and_false, Bool.false_eq_true, false_implies, and_true, true_and] <;> (intro h; rw [h])
  | long => intro b; cases b <;> simp only [Ex.dat, eqv_t, eqv_c, eqv_s, eqv_i, eqv_nn, eqv_nc, eqv_cn, Bool.and_eq_true, beq_iff_eq, false_and, and_false, Bool.false_eq_true, false_implies, and_true, true_and] <;> (first | (intro h; rfl) | (intro _; trivial))
  | view e ih =>
    intro b
    cases b with
    | view f =>
      intro h
      simp only [Ex.dat, eqv_t, eqv_c, eqv_s, eqv_nn, Bool.and_eq_true, and_true, true_and] at h
      rw [ih f h.2]
    | _ => simp only [Ex.dat, eqv_t, eqv_c, eqv_s, eqv_i, eqv_nn, eqv_nc, eqv_cn, Bool.and_eq_true, beq_iff_eq, v2, v3, false_and, and_false, Bool.false_eq_true, false_implies]
  | pick x a b iha ihb =>
    intro c
    cases c with
    | pick y c d =>
      intro h
      simp only [Ex.dat, eqv_t, eqv_c, eqv_s, eqv_nn, Bool.and_eq_true, beq_iff_eq, and_true, true_and] at h
      rw [iha c h.2.1, ihb d h.2.2, h.1]
    | _ => simp only [Ex.dat, eqv_t, eqv_c, eqv_s, eqv_i, eqv_nn, eqv_nc, eqv_cn, Bool.and_eq_true, beq_iff_eq, false_and, and_false, Bool.false_eq_true, false_implies]
  | op s a b iha ihb =>
    intro c
    cases c with
    | op y c d =>
      intro h
      simp only [Ex.dat, eqv_t, eqv_c, eqv_s, eqv_nn, Bool.and_eq_true, beq_iff_eq, and_true, true_and] at h
      rw [iha c h.2.1, ihb d h.2.2, h.1]
    | _ => simp only [Ex.dat, eqv_t, eqv_c, eqv_s, eqv_i, eqv_nn, eqv_nc, eqv_cn, Bool.and_eq_true, beq_iff_eq, false_and, and_false, Bool.false_eq_true, false_implies]
theorem dat_eq_iff {ns ps : List Str} (hn : ∀ x ∈ ns, PyData.strOk x = true) (hp : ∀ x ∈ ps, PyData.strOk x = true) {a b : Ex} (h : a.Wf ns ps) : PyData.eqv a.dat b.dat = true ↔ a = b :=
  ⟨dat_eqv a b, fun e => by rw [← e]; exact SeqAt.eqv_refl _ (dat_lay hn hp a h)⟩
theorem deep_pos (e : Ex) : 0 < e.deep := by cases e <;> simp [Ex.deep]
def Ex.tag : Ex → Str
  | .num _ => "number" | .var _ => "variable" | .long => "long" | .view _ => "view" | .pick _ _ _ => "pick" | .op s _ _ => s
theorem EvK.hd {K : PySem.W.Frag} {H : Hp} {v : V} {e : Ex} (h : EvK K H v e) : ∃ a xs, v = .ref a ∧ SqT K H a xs ∧ xs[0]? = some (.str e.tag) := by
  cases h with
  | num h => exact ⟨_, _, rfl, h.sq, rfl⟩
  | var h => exact ⟨_, _, rfl, h.sq, rfl⟩
  | long h => exact ⟨_, _, rfl, h.sq, rfl⟩
  | view h _ => exact ⟨_, _, rfl, h.sq, rfl⟩
  | pick h _ _ => exact ⟨_, _, rfl, h.sq, rfl⟩
  | op h _ _ => exact ⟨_, _, rfl, h.sq, rfl⟩
theorem EvK.nm {K : PySem.W.Frag} {H : Hp} {v : V} {n : Int} (h : EvK K H v (.num n)) : ∃ a, v = .ref a ∧ SqT K H a [.str "number", .int n] := by
  cases h with
  | num h => exact ⟨_, rfl, h.sq⟩
theorem tag_num {ns ps : List Str} {e : Ex} (h : e.Wf ns ps) (t : e.tag = "number") : ∃ n, e = .num n := by
  obtain ⟨n1, n2, n3, n4, _⟩ := num_ne
  cases e with
  | num n => exact ⟨n, rfl⟩
  | var x => exact absurd t n1
  | long => exact absurd t n2
  | view e => exact absurd t n3
  | pick x a b => exact absurd t n4
  | op s a b => exact absurd t (opL_ne h.1).1

/-! ### statements -/
inductive St where
  | set (x : Str) (e : Ex)
  | ite (e : Ex) (t f : List St)
  | whn (o : Str) (t f : List St)
  | draw (x : Str) (n : Int)
  | move (p : Int) (x : Str) (n k : Int)
  | show (a : Int) (e : Ex)
  | pay (s : Str) (e : Ex)
mutual
def St.dat : St → PyData
  | .set x e => .tuple [.str "set", .str x, e.dat]
  | .ite e t f => .tuple [.str "if", e.dat, .tuple (datL t), .tuple (datL f)]
  | .whn o t f => .tuple [.str "when", .str o, .tuple (datL t), .tuple (datL f)]
  | .draw x n => .tuple [.str "draw", .str x, .int n]
  | .move p x n k => .tuple [.str "move", .int p, .str x, .int n, .int k]
  | .show a e => .tuple [.str "show", .int a, e.dat]
  | .pay s e => .tuple [.str s, e.dat]
def datL : List St → List PyData
  | [] => []
  | s :: r => s.dat :: datL r
end
theorem datL_map : ∀ ss : List St, datL ss = ss.map St.dat
  | [] => rfl
  | s :: r => by
    show s.dat :: datL r = s.dat :: r.map St.dat
    rw [datL_map r]
theorem datL_len (ss : List St) : (datL ss).length = ss.length := by rw [datL_map, List.length_map]
def St.tag : St → Str
  | .set _ _ => "set" | .ite _ _ _ => "if" | .whn _ _ _ => "when" | .draw _ _ => "draw" | .move _ _ _ _ => "move" | .show _ _ => "show" | .pay s _ => s
mutual
/-- bounds: names, depths of expressions -/
def St.Wf (ns ps : List Str) : St → Prop
  | .set x e => x ∈ ns ∧ e.Wf ns ps ∧ e.deep ≤ 13
  | .ite e t f => (e.Wf ns ps ∧ e.deep ≤ 13) ∧ WfL ns ps t ∧ WfL ns ps f
  | .whn o t f => o ∈ ps ∧ WfL ns ps t ∧ WfL ns ps f
  | .draw x _ => x ∈ ns
  | .move _ x _ _ => x ∈ ns
  | .show _ e => e.Wf ns ps ∧ e.deep ≤ 13
  | .pay s e => (s = "pay" ∨ s = "take") ∧ e.Wf ns ps ∧ e.deep ≤ 13
def WfL (ns ps : List Str) : List St → Prop
  | [] => True
  | s :: r => s.Wf ns ps ∧ WfL ns ps r
end
theorem wfL_app {ns ps : List Str} : ∀ {a b : List St}, WfL ns ps a → WfL ns ps b → WfL ns ps (a ++ b)
  | [], _, _, h => h
  | _ :: _, _, h, g => ⟨h.1, wfL_app h.2 g⟩
theorem wfL_get {ns ps : List Str} : ∀ {a : List St} {i : Nat} {s : St}, WfL ns ps a → a[i]? = some s → s.Wf ns ps
  | [], _, _, _, h => by simp at h
  | _ :: _, 0, _, h, e => by cases e; exact h.1
  | _ :: _, i + 1, _, h, e => wfL_get (i := i) h.2 (by rw [List.getElem?_cons_succ] at e; exact e)
mutual
/-- how deep blocks stand in one another -/
def St.lv : St → Nat
  | .ite _ t f => max (lvL t) (lvL f) + 1
  | .whn _ t f => max (lvL t) (lvL f) + 1
  | .set _ _ => 0 | .draw _ _ => 0 | .move _ _ _ _ => 0 | .show _ _ => 0 | .pay _ _ => 0
def lvL : List St → Nat
  | [] => 0
  | s :: r => max s.lv (lvL r)
end
theorem lvL_app : ∀ (a b : List St), lvL (a ++ b) = max (lvL a) (lvL b)
  | [], b => by show lvL b = max 0 (lvL b); omega
  | s :: r, b => by
    show max s.lv (lvL (r ++ b)) = max (max s.lv (lvL r)) (lvL b)
    rw [lvL_app r b]
    omega
theorem lvL_get : ∀ {a : List St} {i : Nat} {s : St}, a[i]? = some s → s.lv ≤ lvL a
  | [], _, _, h => by simp at h
  | s :: r, 0, _, e => by cases e; show s.lv ≤ max s.lv (lvL r); omega
  | s :: r, i + 1, _, e => by
    have := lvL_get (a := r) (i := i) (by rw [List.getElem?_cons_succ] at e; exact e)
    show _ ≤ max s.lv (lvL r)
    omega
mutual
/-- how many statements -/
def St.sz : St → Nat
  | .ite _ t f => 1 + szL t + szL f
  | .whn _ t f => 1 + szL t + szL f
  | .set _ _ => 1 | .draw _ _ => 1 | .move _ _ _ _ => 1 | .show _ _ => 1 | .pay _ _ => 1
def szL : List St → Nat
  | [] => 0
  | s :: r => s.sz + szL r
end
theorem szL_app : ∀ (a b : List St), szL (a ++ b) = szL a + szL b
  | [], b => by show szL b = 0 + szL b; omega
  | s :: r, b => by
    show s.sz + szL (r ++ b) = s.sz + szL r + szL b
    rw [szL_app r b]
    omega
theorem sz_pos (s : St) : 1 ≤ s.sz := by cases s <;> simp only [St.sz] <;> omega
theorem len_sz : ∀ a : List St, a.length ≤ szL a
  | [] => Nat.le_refl _
  | s :: r => by
    have h1 := sz_pos s
    have h2 := len_sz r
    show r.length + 1 ≤ s.sz + szL r
    omega
theorem szL_get : ∀ {a : List St} {i : Nat} {s : St}, a[i]? = some s → s.sz ≤ szL a
  | [], _, _, h => by simp at h
  | s :: r, 0, _, e => by cases e; show s.sz ≤ s.sz + szL r; omega
  | s :: r, i + 1, _, e => by
    have := szL_get (a := r) (i := i) (by rw [List.getElem?_cons_succ] at e; exact e)
    show _ ≤ s.sz + szL r
    omega
mutual
inductive Sv (K : PySem.W.Frag) (H : Hp) : V → St → Prop
  | set {a : Addr} {x : Str} {v : V} {e : Ex} : TpK K H a [.str "set", .str x, v] → EvK K H v e → Sv K H (.ref a) (.set x e)
  | ite {a b c : Addr} {v : V} {e : Ex} {vs ws : List V} {t f : List St} : TpK K H a [.str "if", v, .ref b, .ref c] → EvK K H v e → TpK K H b vs → Bv K H vs t → TpK K H c ws → Bv K H ws f → Sv K H (.ref a) (.ite e t f)
  | whn {a b c : Addr} {o : Str} {vs ws : List V} {t f : List St} : TpK K H a [.str "when", .str o, .ref b, .ref c] → TpK K H b vs → Bv K H vs t → TpK K H c ws → Bv K H ws f → Sv K H (.ref a) (.whn o t f)
  | draw {a : Addr} {x : Str} {n : Int} : TpK K H a [.str "draw", .str x, .int n] → Sv K H (.ref a) (.draw x n)
  | move {a : Addr} {p n k : Int} {x : Str} : TpK K H a [.str "move", .int p, .str x, .int n, .int k] → Sv K H (.ref a) (.move p x n k)
  | show {a : Addr} {m : Int} {v : V} {e : Ex} : TpK K H a [.str "show", .int m, v] → EvK K H v e → Sv K H (.ref a) (.show m e)
  | pay {a : Addr} {s : Str} {v : V} {e : Ex} : TpK K H a [.str s, v] → EvK K H v e → Sv K H (.ref a) (.pay s e)
inductive Bv (K : PySem.W.Frag) (H : Hp) : List V → List St → Prop
  | nil : Bv K H [] []
  | cons {v : V} {vs : List V} {s : St} {ss : List St} : Sv K H v s → Bv K H vs ss → Bv K H (v :: vs) (s :: ss)
end
section
variable {K : PySem.W.Frag} {H H' : Hp}
mutual
theorem Sv.keep (k : KeepT H H') : ∀ {v : V} {s : St}, Sv K H v s → Sv K H' v s
  | _, _, .set h e => .set (h.keep k) (e.keep k)
  | _, _, .ite h e b t c f => .ite (h.keep k) (e.keep k) (b.keep k) (Bv.keep k t) (c.keep k) (Bv.keep k f)
  | _, _, .whn h b t c f => .whn (h.keep k) (b.keep k) (Bv.keep k t) (c.keep k) (Bv.keep k f)
  | _, _, .draw h => .draw (h.keep k)
  | _, _, .move h => .move (h.keep k)
  | _, _, .show h e => .show (h.keep k) (e.keep k)
  | _, _, .pay h e => .pay (h.keep k) (e.keep k)
theorem Bv.keep (k : KeepT H H') : ∀ {vs : List V} {ss : List St}, Bv K H vs ss → Bv K H' vs ss
  | _, _, .nil => .nil
  | _, _, .cons h t => .cons (Sv.keep k h) (Bv.keep k t)
end
theorem Bv.get : ∀ {vs : List V} {ss : List St} {i : Nat} {v : V}, Bv K H vs ss → vs[i]? = some v → ∃ s, ss[i]? = some s ∧ Sv K H v s
  | _, _, _, _, .nil, e => by simp at e
  | _, _, 0, _, .cons h _, e => by cases e; exact ⟨_, rfl, h⟩
  | _, _, i + 1, _, .cons _ t, e => by
    rw [List.getElem?_cons_succ] at e ⊢
    exact Bv.get t e
theorem Bv.len : ∀ {vs : List V} {ss : List St}, Bv K H vs ss → vs.length = ss.length
  | _, _, .nil => rfl
  | _, _, .cons _ t => by rw [List.length_cons, List.length_cons, Bv.len t]
theorem Bv.app : ∀ {vs ws : List V} {ss ts : List St}, Bv K H vs ss → Bv K H ws ts → Bv K H (vs ++ ws) (ss ++ ts)
  | _, _, _, _, .nil, b => b
  | _, _, _, _, .cons h t, b => .cons h (Bv.app t b)
theorem Bv.one {v : V} {s : St} (h : Sv K H v s) : Bv K H [v] [s] := .cons h .nil
theorem Sv.hd {v : V} {s : St} (h : Sv K H v s) : ∃ a xs, v = .ref a ∧ SqT K H a xs ∧ xs[0]? = some (.str s.tag) := by
  cases h with
  | set h _ => exact ⟨_, _, rfl, h.sq, rfl⟩
  | ite h _ _ _ _ _ => exact ⟨_, _, rfl, h.sq, rfl⟩
  | whn h _ _ _ _ => exact ⟨_, _, rfl, h.sq, rfl⟩
  | draw h => exact ⟨_, _, rfl, h.sq, rfl⟩
  | move h => exact ⟨_, _, rfl, h.sq, rfl⟩
  | «show» h _ => exact ⟨_, _, rfl, h.sq, rfl⟩
  | pay h _ => exact ⟨_, _, rfl, h.sq, rfl⟩
mutual
theorem Sv.dp : ∀ {v : V} {s : St}, Sv K H v s → Dp K H v s.dat
  | _, _, .set h e => .tup h.sq (.cons (.str _) (.cons (.str _) (.cons e.dp .nil)))
  | _, _, .ite h e b t c f => .tup h.sq (.cons (.str _) (.cons e.dp (.cons (.tup b.sq (Bv.dp t)) (.cons (.tup c.sq (Bv.dp f)) .nil))))
  | _, _, .whn h b t c f => .tup h.sq (.cons (.str _) (.cons (.str _) (.cons (.tup b.sq (Bv.dp t)) (.cons (.tup c.sq (Bv.dp f)) .nil))))
  | _, _, .draw h => .tup h.sq (.cons (.str _) (.cons (.str _) (.cons (.int _) .nil)))
  | _, _, .move h => .tup h.sq (.cons (.str _) (.cons (.int _) (.cons (.str _) (.cons (.int _) (.cons (.int _) .nil)))))
  | _, _, .show h e => .tup h.sq (.cons (.str _) (.cons (.int _) (.cons e.dp .nil)))
  | _, _, .pay h e => .tup h.sq (.cons (.str _) (.cons e.dp .nil))
theorem Bv.dp : ∀ {vs : List V} {ss : List St}, Bv K H vs ss → DpAll K H vs (datL ss)
  | _, _, .nil => .nil
  | _, _, .cons h t => .cons (Sv.dp h) (Bv.dp t)
end
mutual
theorem Sv.da : ∀ {v : V} {s : St}, Sv K H v s → DaK K H v s.dat
  | _, _, .set h e => .mk h (.cons (.str _) (.cons (.str _) (.cons e.da .nil)))
  | _, _, .ite h e b t c f => .mk h (.cons (.str _) (.cons e.da (.cons (.mk b (Bv.da t)) (.cons (.mk c (Bv.da f)) .nil))))
  | _, _, .whn h b t c f => .mk h (.cons (.str _) (.cons (.str _) (.cons (.mk b (Bv.da t)) (.cons (.mk c (Bv.da f)) .nil))))
  | _, _, .draw h => .mk h (.cons (.str _) (.cons (.str _) (.cons (.int _) .nil)))
  | _, _, .move h => .mk h (.cons (.str _) (.cons (.int _) (.cons (.str _) (.cons (.int _) (.cons (.int _) .nil)))))
  | _, _, .show h e => .mk h (.cons (.str _) (.cons (.int _) (.cons e.da .nil)))
  | _, _, .pay h e => .mk h (.cons (.str _) (.cons e.da .nil))
theorem Bv.da : ∀ {vs : List V} {ss : List St}, Bv K H vs ss → Paired (DaK K H) vs (datL ss)
  | _, _, .nil => .nil
  | _, _, .cons h t => .cons (Sv.da h) (Bv.da t)
end
end
theorem stags_ok : PyData.strOk "set" = true ∧ PyData.strOk "if" = true ∧ PyData.strOk "when" = true ∧ PyData.strOk "draw" = true ∧ PyData.strOk "move" = true ∧ PyData.strOk "show" = true ∧ PyData.strOk "pay" = true ∧ PyData.strOk "take" = true := by decide +kernel
mutual
theorem sdat_lay {ns ps : List Str} (hn : ∀ x ∈ ns, PyData.strOk x = true) (hp : ∀ x ∈ ps, PyData.strOk x = true) : ∀ s : St, s.Wf ns ps → s.dat.canLay0 = true
  | .set x e, h => by
    obtain ⟨k1, k2, k3, k4, k5, k6, k7, k8⟩ := stags_ok
    simp [St.dat, PyData.canLay0, PyData.canLayAll0, k1, hn x h.1, dat_lay hn hp e h.2.1]
  | .ite e t f, h => by
    obtain ⟨k1, k2, k3, k4, k5, k6, k7, k8⟩ := stags_ok
    simp [St.dat, PyData.canLay0, PyData.canLayAll0, k2, dat_lay hn hp e h.1.1, ldat_lay hn hp t h.2.1, ldat_lay hn hp f h.2.2]
  | .whn o t f, h => by
    obtain ⟨k1, k2, k3, k4, k5, k6, k7, k8⟩ := stags_ok
    simp [St.dat, PyData.canLay0, PyData.canLayAll0, k3, hp o h.1, ldat_lay hn hp t h.2.1, ldat_lay hn hp f h.2.2]
  | .draw x n, h => by
    obtain ⟨k1, k2, k3, k4, k5, k6, k7, k8⟩ := stags_ok
    have hx : x ∈ ns := h
    simp [St.dat, PyData.canLay0, PyData.canLayAll0, k4, hn x hx]
  | .move p x n k, h => by
    obtain ⟨k1, k2, k3, k4, k5, k6, k7, k8⟩ := stags_ok
    have hx : x ∈ ns := h
    simp [St.dat, PyData.canLay0, PyData.canLayAll0, k5, hn x hx]
  | .show a e, h => by
    obtain ⟨k1, k2, k3, k4, k5, k6, k7, k8⟩ := stags_ok
    simp [St.dat, PyData.canLay0, PyData.canLayAll0, k6, dat_lay hn hp e h.1]
  | .pay s e, h => by
    obtain ⟨k1, k2, k3, k4, k5, k6, k7, k8⟩ := stags_ok
    have ks : PyData.strOk s = true := by
      rcases h.1 with e | e
      · rw [e]; exact k7
      · rw [e]; exact k8
    simp [St.dat, PyData.canLay0, PyData.canLayAll0, ks, dat_lay hn hp e h.2.1]
theorem ldat_lay {ns ps : List Str} (hn : ∀ x ∈ ns, PyData.strOk x = true) (hp : ∀ x ∈ ps, PyData.strOk x = true) : ∀ ss : List St, WfL ns ps ss → PyData.canLayAll0 (datL ss) = true
  | [], _ => by simp [datL, PyData.canLayAll0]
  | s :: r, h => by simp [datL, PyData.canLayAll0, sdat_lay hn hp s h.1, ldat_lay hn hp r h.2]
end
mutual
theorem sdat_depth {ns ps : List Str} : ∀ s : St, s.Wf ns ps → s.dat.depth ≤ 2 * s.lv + 14
  | .set x e, h => by
    have := h.2.2
    simp only [St.dat, PyData.depth, PyData.depthAll, dat_depth, St.lv]
    omega
  | .ite e t f, h => by
    have := h.1.2
    have := ldat_depth t h.2.1
    have := ldat_depth f h.2.2
    simp only [St.dat, PyData.depth, PyData.depthAll, dat_depth, St.lv]
    omega
  | .whn o t f, h => by
    have := ldat_depth t h.2.1
    have := ldat_depth f h.2.2
    simp only [St.dat, PyData.depth, PyData.depthAll, St.lv]
    omega
  | .draw x n, _ => by simp only [St.dat, PyData.depth, PyData.depthAll, St.lv]; omega
  | .move p x n k, _ => by simp only [St.dat, PyData.depth, PyData.depthAll, St.lv]; omega
  | .show a e, h => by
    have := h.2
    simp only [St.dat, PyData.depth, PyData.depthAll, dat_depth, St.lv]
    omega
  | .pay s e, h => by
    have := h.2.2
    simp only [St.dat, PyData.depth, PyData.depthAll, dat_depth, St.lv]
    omega
theorem ldat_depth {ns ps : List Str} : ∀ ss : List St, WfL ns ps ss → PyData.depthAll (datL ss) ≤ 2 * lvL ss + 14
  | [], _ => by simp [datL, PyData.depthAll]
  | s :: r, h => by
    have := sdat_depth s h.1
    have := ldat_depth r h.2
    simp only [datL, PyData.depthAll, lvL]
    omega
end
mutual
theorem sdat_wide : ∀ s : St, s.sz ≤ 1000000 → wide s.dat = true
  | .set x e, _ => by simp [St.dat, wide, wideAll, dat_wide]
  | .ite e t f, h => by
    have h : 1 + szL t + szL f ≤ 1000000 := h
    have h1 := len_sz t
    have h2 := len_sz f
    have l1 : decide ((datL t).length ≤ 1000000) = true := decide_eq_true (by rw [datL_len]; omega)
    have l2 : decide ((datL f).length ≤ 1000000) = true := decide_eq_true (by rw [datL_len]; omega)
    simp only [St.dat, wide, wideAll, dat_wide, ldat_wide t (by omega), ldat_wide f (by omega), l1, l2]
    rfl
  | .whn o t f, h => by
    have h : 1 + szL t + szL f ≤ 1000000 := h
    have h1 := len_sz t
    have h2 := len_sz f
    have l1 : decide ((datL t).length ≤ 1000000) = true := decide_eq_true (by rw [datL_len]; omega)
    have l2 : decide ((datL f).length ≤ 1000000) = true := decide_eq_true (by rw [datL_len]; omega)
    simp only [St.dat, wide, wideAll, ldat_wide t (by omega), ldat_wide f (by omega), l1, l2]
    rfl
  | .draw x n, _ => by simp [St.dat, wide, wideAll]
  | .move p x n k, _ => by simp [St.dat, wide, wideAll]
  | .show a e, _ => by simp [St.dat, wide, wideAll, dat_wide]
  | .pay s e, _ => by simp [St.dat, wide, wideAll, dat_wide]
theorem ldat_wide : ∀ ss : List St, szL ss ≤ 1000000 → wideAll (datL ss) = true
  | [], _ => by simp [datL, wideAll]
  | s :: r, h => by
    have h : s.sz + szL r ≤ 1000000 := h
    simp only [datL, wideAll, sdat_wide s (by omega), ldat_wide r (by omega)]
    rfl
end
theorem stag_ne : ("set" : Str) ≠ "if" ∧ ("set" : Str) ≠ "when" ∧ ("draw" : Str) ≠ "if" ∧ ("draw" : Str) ≠ "when" ∧ ("draw" : Str) ≠ "set" ∧ ("draw" : Str) ≠ "show" ∧ ("move" : Str) ≠ "if" ∧ ("move" : Str) ≠ "when" ∧ ("move" : Str) ≠ "set" ∧ ("move" : Str) ≠ "show" ∧
    ("show" : Str) ≠ "if" ∧ ("show" : Str) ≠ "when" ∧ ("show" : Str) ≠ "set" ∧ ("pay" : Str) ≠ "if" ∧ ("pay" : Str) ≠ "when" ∧ ("pay" : Str) ≠ "set" ∧ ("pay" : Str) ≠ "show" ∧ ("take" : Str) ≠ "if" ∧ ("take" : Str) ≠ "when" ∧ ("take" : Str) ≠ "set" ∧ ("take" : Str) ≠ "show" ∧
    ("when" : Str) ≠ "if" ∧ ("draw" : Str) ≠ "pay" ∧ ("draw" : Str) ≠ "take" ∧ ("move" : Str) ≠ "pay" ∧ ("move" : Str) ≠ "take" ∧ ("draw" : Str) ≠ "move" ∧ ("pay" : Str) ≠ "take" ∧ ("set" : Str) ≠ "move" ∧ ("set" : Str) ≠ "draw" ∧ ("show" : Str) ≠ "move" ∧ ("show" : Str) ≠ "draw" ∧
    ("if" : Str) ≠ "draw" ∧ ("if" : Str) ≠ "move" ∧ ("when" : Str) ≠ "draw" ∧ ("when" : Str) ≠ "move" ∧ ("pay" : Str) ≠ "draw" ∧ ("pay" : Str) ≠ "move" ∧ ("take" : Str) ≠ "draw" ∧ ("take" : Str) ≠ "move" := by decide +kernel
mutual
/-- equal data are equal statements -/
theorem sdat_eqv {ns ps : List Str} : ∀ a b : St, a.Wf ns ps → b.Wf ns ps → PyData.eqv a.dat b.dat = true → a = b
  | .set x e, b, ha, hb, h => by
    obtain ⟨m1, m2, m3, m4, m5, m6, m7, m8, m9, m10, m11, m12, m13, m14, m15, m16, m17, m18, m19, m20, m21, m22, m23, m24, m25, m26, m27, m28, m29, m30, m31, m32, m33, m34, m35, m36, m37, m38, m39, m40⟩ := stag_ne
    cases b with
    | set y f =>
      simp only [St.dat, eqv_t, eqv_c, eqv_s, eqv_nn, Bool.and_eq_true, beq_iff_eq, and_true, true_and] at h
      rw [h.1, dat_eqv e f h.2]
    | draw y n => simp only [St.dat, eqv_t, eqv_c, eqv_s, Bool.and_eq_true, beq_iff_eq, m30, false_and] at h
    | «show» y f => simp only [St.dat, eqv_t, eqv_c, eqv_s, Bool.and_eq_true, beq_iff_eq, m13.symm, false_and] at h
    | _ => simp only [St.dat, eqv_t, eqv_c, eqv_s, eqv_nc, eqv_cn, Bool.and_eq_true, and_false, Bool.false_eq_true] at h
  | .ite e t f, b, ha, hb, h => by
    obtain ⟨m1, m2, m3, m4, m5, m6, m7, m8, m9, m10, m11, m12, m13, m14, m15, m16, m17, m18, m19, m20, m21, m22, m23, m24, m25, m26, m27, m28, m29, m30, m31, m32, m33, m34, m35, m36, m37, m38, m39, m40⟩ := stag_ne
    cases b with
    | ite y u v =>
      simp only [St.dat, eqv_t, eqv_c, eqv_s, eqv_nn, Bool.and_eq_true, beq_iff_eq, and_true, true_and] at h
      rw [dat_eqv e y h.1, ldat_eqv t u ha.2.1 hb.2.1 h.2.1, ldat_eqv f v ha.2.2 hb.2.2 h.2.2]
    | whn y u v => simp only [St.dat, eqv_t, eqv_c, eqv_s, Bool.and_eq_true, beq_iff_eq, m22.symm, false_and] at h
    | _ => simp only [St.dat, eqv_t, eqv_c, eqv_s, eqv_nc, eqv_cn, Bool.and_eq_true, and_false, Bool.false_eq_true] at h
  | .whn e t f, b, ha, hb, h => by
    obtain ⟨m1, m2, m3, m4, m5, m6, m7, m8, m9, m10, m11, m12, m13, m14, m15, m16, m17, m18, m19, m20, m21, m22, m23, m24, m25, m26, m27, m28, m29, m30, m31, m32, m33, m34, m35, m36, m37, m38, m39, m40⟩ := stag_ne
    cases b with
    | whn y u v =>
      simp only [St.dat, eqv_t, eqv_c, eqv_s, eqv_nn, Bool.and_eq_true, beq_iff_eq, and_true, true_and] at h
      rw [h.1, ldat_eqv t u ha.2.1 hb.2.1 h.2.1, ldat_eqv f v ha.2.2 hb.2.2 h.2.2]
    | ite y u v => simp only [St.dat, eqv_t, eqv_c, eqv_s, Bool.and_eq_true, beq_iff_eq, m22, false_and] at h
    | _ => simp only [St.dat, eqv_t, eqv_c, eqv_s, eqv_nc, eqv_cn, Bool.and_eq_true, and_false, Bool.false_eq_true] at h
  | .draw x n, b, ha, hb, h => by
    obtain ⟨m1, m2, m3, m4, m5, m6, m7, m8, m9, m10, m11, m12, m13, m14, m15, m16, m17, m18, m19, m20, m21, m22, m23, m24, m25, m26, m27, m28, m29, m30, m31, m32, m33, m34, m35, m36, m37, m38, m39, m40⟩ := stag_ne
    cases b with
    | draw y m =>
      simp only [St.dat, eqv_t, eqv_c, eqv_s, eqv_i, eqv_nn, Bool.and_eq_true, beq_iff_eq, and_true, true_and] at h
      rw [h.1, h.2]
    | set y f => simp only [St.dat, eqv_t, eqv_c, eqv_s, Bool.and_eq_true, beq_iff_eq, m5, false_and] at h
    | «show» y f => simp only [St.dat, eqv_t, eqv_c, eqv_s, Bool.and_eq_true, beq_iff_eq, m6, false_and] at h
    | _ => simp only [St.dat, eqv_t, eqv_c, eqv_s, eqv_nc, eqv_cn, Bool.and_eq_true, and_false, Bool.false_eq_true] at h
  | .move p x n k, b, ha, hb, h => by
    cases b with
    | move q y m l =>
      simp only [St.dat, eqv_t, eqv_c, eqv_s, eqv_i, eqv_nn, Bool.and_eq_true, beq_iff_eq, and_true, true_and] at h
      rw [h.1, h.2.1, h.2.2.1, h.2.2.2]
    | _ => simp only [St.dat, eqv_t, eqv_c, eqv_s, eqv_nc, eqv_cn, Bool.and_eq_true, and_false, Bool.false_eq_true] at h
  | .show p x, b, ha, hb, h => by
    obtain ⟨m1, m2, m3, m4, m5, m6, m7, m8, m9, m10, m11, m12, m13, m14, m15, m16, m17, m18, m19, m20, m21, m22, m23, m24, m25, m26, m27, m28, m29, m30, m31, m32, m33, m34, m35, m36, m37, m38, m39, m40⟩ := stag_ne
    cases b with
    | «show» q y =>
      simp only [St.dat, eqv_t, eqv_c, eqv_s, eqv_i, eqv_nn, Bool.and_eq_true, beq_iff_eq, and_true, true_and] at h
      rw [h.1, dat_eqv x y h.2]
    | set y f => simp only [St.dat, eqv_t, eqv_c, eqv_s, Bool.and_eq_true, beq_iff_eq, m13, false_and] at h
    | draw y f => simp only [St.dat, eqv_t, eqv_c, eqv_s, Bool.and_eq_true, beq_iff_eq, m32, false_and] at h
    | _ => simp only [St.dat, eqv_t, eqv_c, eqv_s, eqv_nc, eqv_cn, Bool.and_eq_true, and_false, Bool.false_eq_true] at h
  | .pay s e, b, ha, hb, h => by
    cases b with
    | pay q y =>
      simp only [St.dat, eqv_t, eqv_c, eqv_s, eqv_nn, Bool.and_eq_true, beq_iff_eq, and_true, true_and] at h
      rw [h.1, dat_eqv e y h.2]
    | _ => simp only [St.dat, eqv_t, eqv_c, eqv_s, eqv_nc, eqv_cn, Bool.and_eq_true, and_false, Bool.false_eq_true] at h
theorem ldat_eqv {ns ps : List Str} : ∀ a b : List St, WfL ns ps a → WfL ns ps b → PyData.eqvAll (datL a) (datL b) = true → a = b
  | [], [], _, _, _ => rfl
  | [], _ :: _, _, _, h => by simp only [datL, eqv_nc, Bool.false_eq_true] at h
  | _ :: _, [], _, _, h => by simp only [datL, eqv_cn, Bool.false_eq_true] at h
  | a :: r, b :: q, ha, hb, h => by
    simp only [datL, eqv_c, Bool.and_eq_true] at h
    rw [sdat_eqv a b ha.1 hb.1 h.1, ldat_eqv r q ha.2 hb.2 h.2]
end


/-! ### reading blocks of a game -/
inductive BkR where
  | ok (ss : List St) (j : Nat) (st : Nat × Nat)
  | bad (j : Nat)
inductive StR where
  | ok (s : St) (j : Nat) (st : Nat × Nat)
  | bad (j : Nat)
def seatL : List Str := ["both", "first", "second"]
def ixS (l : List Str) (x : Str) : Nat := l.findIdx fun y => decide (y = x)
theorem ixS_get {l : List Str} {x : Str} (h : x ∈ l) : l[ixS l x]? = some x ∧ ∀ m, m < ixS l x → l[m]? ≠ some x := by
  have hlt : ixS l x < l.length := List.findIdx_lt_length_of_exists ⟨x, h, decide_eq_true rfl⟩
  refine ⟨?_, fun m hm e => ?_⟩
  · rw [List.getElem?_eq_getElem hlt]
    have := List.findIdx_getElem (xs := l) (p := fun y => decide (y = x)) (w := hlt)
    exact congrArg some (of_decide_eq_true this)
  · have hml : m < l.length := Nat.lt_trans hm hlt
    have := List.not_of_lt_findIdx (xs := l) (p := fun y => decide (y = x)) hm
    rw [List.getElem?_eq_getElem hml] at e
    rw [Option.some.inj e] at this
    simp at this
theorem ixS_lt {l : List Str} {x : Str} (h : x ∈ l) : ixS l x < l.length := List.findIdx_lt_length_of_exists ⟨x, h, decide_eq_true rfl⟩
theorem str_of_map {ns : List Str} {i : Nat} {y : V} (hi : (ns.map V.str)[i]? = some y) : ∃ z, ns[i]? = some z ∧ y = V.str z := by
  rw [List.getElem?_map] at hi
  cases e : ns[i]? with
  | none => rw [e] at hi; cases hi
  | some u => rw [e] at hi; exact ⟨u, rfl, (Option.some.inj hi).symm⟩
theorem eqV_str {a b : Str} : eqV (V.str a) (V.str b) = decide (a = b) := by
  show (a == b) = _
  by_cases h : a = b
  · rw [decide_eq_true h, h]
    exact beq_self_eq_true b
  · rw [decide_eq_false h]
    exact beq_eq_false_iff_ne.mpr h
theorem list_ix {ns : List Str} {x : Str} (m : x ∈ ns) : (ns.map V.str)[ixS ns x]? = some (V.str x) ∧ eqV (V.str x) (V.str x) = true ∧ ∀ (m : Nat) (z' : V), m < ixS ns x → (ns.map V.str)[m]? = some z' → eqV z' (V.str x) = false := by
  obtain ⟨g1, g2⟩ := ixS_get m
  refine ⟨?_, ?_, fun m z hm hz => ?_⟩
  · rw [List.getElem?_map, g1]
    rfl
  · rw [eqV_str]
    exact decide_eq_true rfl
  · obtain ⟨y, hy, rfl⟩ := str_of_map hz
    rw [eqV_str]
    exact decide_eq_false fun z => g2 m hm (by rw [hy, z])
def seatN (x : Str) : Int := ((ixS seatL x : Nat) : Int)
def nameM (ws l : List Str) (i : Nat) : Option Str := match ws[i]? with
  | some x => if x ∈ l then some x else none
  | none => none
def numM (ws : List Str) (lo hi : Nat) (i : Nat) : Option Nat := match ws[i]? with
  | some x => match numOf x with
    | some n => if lo ≤ n ∧ n ≤ hi then some n else none
    | none => none
  | none => none
def opensB (c : CuI) (lvl : Nat) (st : Nat × Nat) : List Str := ((["show", "pay", "take"] : List Str) ++ (if 0 < lvl then ((["if"] : List Str) ++ if (!c.ops.isEmpty) = true then (["when"] : List Str) else []) else [])) ++
  (if (!c.vars.isEmpty) = true then ((["set"] : List Str) ++ if st.1 + st.2 < 24 then (["draw", "first", "second"] : List Str) else []) else [])
def endM (c : CuI) (s : St) (j : Nat) (st : Nat × Nat) : StR := if c.ws[j]? = some ("end" : Str) then .ok s (j + 1) st else .bad j
def branchM (c : CuI) (g : Nat → Nat × Nat → BkR) (mk : List St → List St → St) (i : Nat) (st : Nat × Nat) : StR := match g i st with
  | .bad j => .bad j
  | .ok t j st1 => if c.ws[j]? = some ("else" : Str) then (match g (j + 1) st1 with
      | .bad j' => .bad j'
      | .ok f j' st2 => if f = [] then .bad j' else endM c (mk t f) j' st2)
    else endM c (mk t []) j st1
def choiceM (c : CuI) (x : Str) (i : Nat) (st : Nat × Nat) : StR := match nameM c.ws c.vars i with
  | none => .bad i
  | some y => if x = "draw" then (match numM c.ws 1 64 (i + 1) with
      | none => .bad (i + 1)
      | some n => .ok (.draw y n) (i + 2) (st.1 + 1, st.2))
    else match numM c.ws 1 8 (i + 1) with
      | none => .bad (i + 1)
      | some n => .ok (.move (seatN x) y n st.2) (i + 2) (st.1, st.2 + 1)
def exprM (c : CuI) (mk : Ex → St) (i : Nat) (st : Nat × Nat) : StR := match readM c 12 i with
  | .bad j => .bad j
  | .ok e j => .ok (mk e) j st
/-- the statement that begins with x, which stands ahead of i -/
def stmtM (c : CuI) (g : Nat → Nat × Nat → BkR) (x : Str) (i : Nat) (st : Nat × Nat) : StR :=
  if x = "if" then (match readM c 12 i with
    | .bad j => .bad j
    | .ok e j => branchM c g (.ite e) j st)
  else if x = "when" then (match nameM c.ws c.ops i with
    | none => .bad i
    | some o => branchM c g (.whn o) (i + 1) st)
  else if x = "show" then (match nameM c.ws seatL i with
    | none => .bad i
    | some s => exprM c (.show (seatN s)) (i + 1) st)
  else if x = "set" then (match nameM c.ws c.vars i with
    | none => .bad i
    | some y => exprM c (.set y) (i + 1) st)
  else if x ∈ (["draw", "first", "second"] : List Str) then choiceM c x i st
  else exprM c (.pay x) i st
def loopM (f : Nat → Nat × Nat → Option StR) : Nat → Nat → Nat × Nat → BkR
  | 0, i, st => .ok [] i st
  | n + 1, i, st => match f i st with
    | none => .ok [] i st
    | some (.bad j) => .bad j
    | some (.ok s j st') => match loopM f n j st' with
      | .bad j' => .bad j'
      | .ok ss j' st'' => .ok (s :: ss) j' st''
def headM (c : CuI) (lvl : Nat) (g : Nat → Nat × Nat → BkR) (i : Nat) (st : Nat × Nat) : Option StR := match c.ws[i]? with
  | none => none
  | some x => if x ∈ opensB c lvl st then some (stmtM c g x (i + 1) st) else none
def blockM (c : CuI) : Nat → Nat → Nat × Nat → BkR
  | 0, i, st => loopM (headM c 0 fun j st => .ok [] j st) (c.ws.length + 1) i st
  | l + 1, i, st => loopM (headM c (l + 1) (blockM c l)) (c.ws.length + 1) i st
def preR (ss : List St) : BkR → BkR
  | .bad j => .bad j
  | .ok ts j st => .ok (ss ++ ts) j st
/-- the reader of blocks -/
def Rdr (C : Addr) (H : Hp) (r ca : Addr) (st : Nat × Nat) : Prop := ∃ dx, H r = some (.ins C dx [("_cursor", .ref ca), ("_draws", .int (st.1 : Nat)), ("_moves", .int (st.2 : Nat))])
theorem rdNd {ca : Addr} {a b : Int} : ((([("_cursor", V.ref ca), ("_draws", .int a), ("_moves", .int b)] : List (Str × V))).map (·.1)).Nodup := by
  show (["_cursor", "_draws", "_moves"] : List Str).Nodup
  decide +kernel
theorem rd_no {ca : Addr} {a b : Int} {m : Str} (h : m ∉ (["_cursor", "_draws", "_moves"] : List Str)) : ([("_cursor", V.ref ca), ("_draws", .int a), ("_moves", .int b)] : List (Str × V)).lookup m = none := lk_none h
theorem rd_meths : ("read_block" : Str) ∉ (["_cursor", "_draws", "_moves"] : List Str) ∧ ("_openings" : Str) ∉ (["_cursor", "_draws", "_moves"] : List Str) ∧ ("_read_statement" : Str) ∉ (["_cursor", "_draws", "_moves"] : List Str) ∧ ("_read_choice" : Str) ∉ (["_cursor", "_draws", "_moves"] : List Str) ∧ ("_read_branches" : Str) ∉ (["_cursor", "_draws", "_moves"] : List Str) := by decide +kernel
/-- but what stands at a and r -/
def But2 (a r : Addr) (H H' : Hp) : Prop := ∀ b o, b ≠ a → b ≠ r → H b = some o → H' b = some o
theorem But2.refl (a r : Addr) (H : Hp) : But2 a r H H := fun _ _ _ _ h => h
theorem But2.trans {a r : Addr} {H H1 H2 : Hp} (x : But2 a r H H1) (y : But2 a r H1 H2) : But2 a r H H2 := fun c o n m h => y c o n m (x c o n m h)
theorem but2_l {a r : Addr} {H H' : Hp} (b : But a H H') : But2 a r H H' := fun c o n _ h => b c o n h
theorem but2_r {a r : Addr} {H H' : Hp} (b : But r H H') : But2 a r H H' := fun c o _ n h => b c o n h
theorem but2_s {a r : Addr} {H H' : Hp} (s : Same H H') : But2 a r H H' := fun c o _ _ h => s c o h
/-- the reader with its cursor, at a place -/
structure RdS (K : PySem.W.Frag) (CC CR : Addr) (H : Hp) (c : CuI) (r : Addr) (i : Nat) (st : Nat × Nat) : Prop where
  cu : CuX K CC H c i
  rd : Rdr CR H r c.a st
  ne : c.a ≠ r
theorem RdS.same {K : PySem.W.Frag} {CC CR : Addr} {H H' : Hp} {c : CuI} {r : Addr} {i : Nat} {st : Nat × Nat} (h : RdS K CC CR H c r i st) (s : Same H H') : RdS K CC CR H' c r i st := by
  obtain ⟨a, ⟨dx, b⟩, n⟩ := h
  exact ⟨a.same s, ⟨dx, s _ _ b⟩, n⟩
theorem RdS.moved {K : PySem.W.Frag} {CC CR : Addr} {H H' : Hp} {c : CuI} {r : Addr} {i j : Nat} {st : Nat × Nat} (h : RdS K CC CR H c r i st) (b : But c.a H H') (g : CuX K CC H' c j) : RdS K CC CR H' c r j st := by
  obtain ⟨a, ⟨dx, e⟩, n⟩ := h
  exact ⟨g, ⟨dx, b _ _ n.symm e⟩, n⟩
theorem RdS.keepT {K : PySem.W.Frag} {CC CR : Addr} {H H' : Hp} {c : CuI} {r : Addr} {i : Nat} {st : Nat × Nat} (h : RdS K CC CR H c r i st) (b : But2 c.a r H H') : KeepT H H' := by
  obtain ⟨⟨_, ⟨dx, a⟩, _⟩, ⟨dy, e⟩, _⟩ := h
  exact fun z xs g => b z _ (fun y => by rw [y, a] at g; cases g) (fun y => by rw [y, e] at g; cases g) g
def BkK (K : PySem.W.Frag) (CC CR B : Addr) (H : Hp) (c : CuI) (r : Addr) (x : BkR) (Q : VK) (E : XK) : Prop := match x with
  | .ok ss j st => ∀ p vs H', But2 c.a r H H' → H' p = some (.tup vs) → Bv K H' vs ss → RdS K CC CR H' c r j st → Q (.ref p) H'
  | .bad j => ∀ d H', But2 c.a r H H' → H' d = some (.xd [("at", .int (j : Nat))]) → E (.ref B) (some d) H'
def StK (K : PySem.W.Frag) (CC CR B : Addr) (H : Hp) (c : CuI) (r : Addr) (x : StR) (Q : VK) (E : XK) : Prop := match x with
  | .ok s j st => ∀ v H', But2 c.a r H H' → Sv K H' v s → RdS K CC CR H' c r j st → Q v H'
  | .bad j => ∀ d H', But2 c.a r H H' → H' d = some (.xd [("at", .int (j : Nat))]) → E (.ref B) (some d) H'
theorem BkK.mono {K : PySem.W.Frag} {CC CR B : Addr} {H H1 : Hp} {c : CuI} {r : Addr} {x : BkR} {Q : VK} {E : XK} (b : But2 c.a r H H1) (h : BkK K CC CR B H c r x Q E) : BkK K CC CR B H1 c r x Q E := by
  cases x with
  | ok ss j st => exact fun p vs H' b1 => h p vs H' (b.trans b1)
  | bad j => exact fun d H' b1 => h d H' (b.trans b1)
theorem StK.mono {K : PySem.W.Frag} {CC CR B : Addr} {H H1 : Hp} {c : CuI} {r : Addr} {x : StR} {Q : VK} {E : XK} (b : But2 c.a r H H1) (h : StK K CC CR B H c r x Q E) : StK K CC CR B H1 c r x Q E := by
  cases x with
  | ok s j st => exact fun v H' b1 => h v H' (b.trans b1)
  | bad j => exact fun d H' b1 => h d H' (b.trans b1)
theorem numM_some {ws : List Str} {lo hi i n : Nat} {x : Str} (e : ws[i]? = some x) (h : n ≤ 65535) (f : x.cps.toList = TL.numL n) (l : lo ≤ n ∧ n ≤ hi) : numM ws lo hi i = some n := by
  unfold numM
  rw [e]
  show (match numOf x with
    | some n => if lo ≤ n ∧ n ≤ hi then some n else none
    | none => none) = _
  rw [numOf_some h f]
  show (if lo ≤ n ∧ n ≤ hi then some n else none) = _
  rw [if_pos l]
theorem numM_none {ws : List Str} {lo hi i : Nat} (h : ∀ x v, ws[i]? = some x → ¬ Fit (.num lo hi) x v) : numM ws lo hi i = none := by
  unfold numM
  cases e : ws[i]? with
  | none => rfl
  | some x =>
    show (match numOf x with
      | some n => if lo ≤ n ∧ n ≤ hi then some n else none
      | none => none) = _
    cases f : numOf x with
    | none => rfl
    | some n =>
      show (if lo ≤ n ∧ n ≤ hi then some n else none) = _
      obtain ⟨n1, n2⟩ := numOf_of f
      rw [if_neg fun l => h x (.int n) e ⟨n, n1, n2, by omega, by omega, rfl⟩]
theorem nameM_some {ws l : List Str} {i : Nat} {x : Str} (e : ws[i]? = some x) (m : x ∈ l) : nameM ws l i = some x := by
  unfold nameM
  rw [e]
  show (if x ∈ l then some x else none) = _
  rw [if_pos m]
theorem nameM_none {ws l : List Str} {i : Nat} (h : ∀ x v, ws[i]? = some x → ¬ Fit (.name l) x v) : nameM ws l i = none := by
  unfold nameM
  cases e : ws[i]? with
  | none => rfl
  | some x =>
    show (if x ∈ l then some x else none) = _
    rw [if_neg fun m => h x (.str x) e ⟨m, rfl⟩]
def prevM (c : CuI) : Nat → Nat → Nat × Nat → BkR
  | 0 => fun j st => .ok [] j st
  | l + 1 => blockM c l
theorem blockM_eq (c : CuI) (lvl i : Nat) (st : Nat × Nat) : blockM c lvl i st = loopM (headM c lvl (prevM c lvl)) (c.ws.length + 1) i st := by
  cases lvl <;> rfl

/-! ### what is read is well-formed, and words are passed -/
theorem twoR_ok {f : Ex → Ex → Ex} {g : Nat → RdR} {i : Nat} {e : Ex} {j : Nat} (h : twoR f g i = .ok e j) : ∃ a b j1, g i = .ok a j1 ∧ g j1 = .ok b j ∧ e = f a b := by
  unfold twoR at h
  cases e1 : g i with
  | bad => rw [e1] at h; cases h
  | ok a j1 =>
    rw [e1] at h
    replace h : (match g j1 with
      | .bad j' => RdR.bad j'
      | .ok b j' => .ok (f a b) j') = .ok e j := h
    cases e2 : g j1 with
    | bad => rw [e2] at h; cases h
    | ok b j2 =>
      rw [e2] at h
      cases h
      exact ⟨a, b, j1, rfl, e2, rfl⟩
theorem partsR_ok {c : CuI} {g : Nat → RdR} {k i : Nat} {x : Str} {e : Ex} {j : Nat} (hg : ∀ i e j, g i = .ok e j → e.Wf c.vars c.ops ∧ e.deep ≤ k ∧ i < j) (m : x ∈ openAll) (h : partsR c g x i = .ok e j) : e.Wf c.vars c.ops ∧ e.deep ≤ k + 1 ∧ i ≤ j := by
  unfold partsR at h
  by_cases x1 : x = "long"
  · rw [if_pos x1] at h
    cases h
    exact ⟨trivial, by show 1 ≤ k + 1; omega, Nat.le_refl _⟩
  rw [if_neg x1] at h
  by_cases x2 : x = "view"
  · rw [if_pos x2] at h
    unfold oneR at h
    cases e1 : g i with
    | bad => rw [e1] at h; cases h
    | ok a j1 =>
      rw [e1] at h
      cases h
      obtain ⟨w, d, l⟩ := hg _ _ _ e1
      exact ⟨w, by show a.deep + 1 ≤ k + 1; omega, by omega⟩
  rw [if_neg x2] at h
  by_cases x3 : x = "pick"
  · rw [if_pos x3] at h
    cases eo : c.ws[i]? with
    | none => rw [eo] at h; cases h
    | some o =>
      rw [eo] at h
      replace h : (if o ∈ c.ops then twoR (.pick o) g (i + 1) else .bad i) = .ok e j := h
      by_cases mo : o ∈ c.ops
      · rw [if_pos mo] at h
        obtain ⟨a, b, j1, h1, h2, rfl⟩ := twoR_ok h
        obtain ⟨w1, d1, l1⟩ := hg _ _ _ h1
        obtain ⟨w2, d2, l2⟩ := hg _ _ _ h2
        exact ⟨⟨mo, w1, w2⟩, by show max a.deep b.deep + 1 ≤ k + 1; omega, by omega⟩
      · rw [if_neg mo] at h
        cases h
  rw [if_neg x3] at h
  obtain ⟨a, b, j1, h1, h2, rfl⟩ := twoR_ok h
  obtain ⟨w1, d1, l1⟩ := hg _ _ _ h1
  obtain ⟨w2, d2, l2⟩ := hg _ _ _ h2
  have mo : x ∈ opL := by
    rcases List.mem_append.mp m with m | m
    · rcases List.mem_cons.mp m with m | m
      · exact absurd m x1
      rcases List.mem_cons.mp m with m | m
      · exact absurd m x2
      exact absurd (List.mem_singleton.mp m) x3
    · exact m
  exact ⟨⟨mo, w1, w2⟩, by show max a.deep b.deep + 1 ≤ k + 1; omega, by omega⟩
theorem readM_ok {c : CuI} : ∀ (k i : Nat) (e : Ex) (j : Nat), readM c k i = .ok e j → e.Wf c.vars c.ops ∧ e.deep ≤ k ∧ i < j
  | 0, _, _, _, h => by cases h
  | k + 1, i, e, j, h => by
    have ih := readM_ok (c := c) k
    unfold readM at h
    cases ew : c.ws[i]? with
    | none => rw [ew] at h; cases h
    | some x =>
      rw [ew] at h
      replace h : (if x ∈ c.vars then .ok (.var x) (i + 1) else if x ∈ opens c.se (!c.ops.isEmpty) (k + 1) then partsR c (readM c k) x (i + 1)
        else match numOf x with
          | some n => .ok (.num n) (i + 1)
          | none => RdR.bad i) = .ok e j := h
      by_cases m : x ∈ c.vars
      · rw [if_pos m] at h
        cases h
        exact ⟨m, by show 1 ≤ k + 1; omega, by omega⟩
      rw [if_neg m] at h
      by_cases o : x ∈ opens c.se (!c.ops.isEmpty) (k + 1)
      · rw [if_pos o] at h
        obtain ⟨w, d, l⟩ := partsR_ok ih (opens_all o) h
        exact ⟨w, d, by omega⟩
      rw [if_neg o] at h
      cases f : numOf x with
      | none => rw [f] at h; cases h
      | some n =>
        rw [f] at h
        cases h
        obtain ⟨n1, _⟩ := numOf_of f
        exact ⟨⟨by omega, by omega⟩, by show 1 ≤ k + 1; omega, by omega⟩
/-- what a block reader of a level gives -/
def GoodB (c : CuI) (l : Nat) (g : Nat → Nat × Nat → BkR) : Prop := ∀ i st ss j st', g i st = .ok ss j st' → WfL c.vars c.ops ss ∧ lvL ss ≤ l ∧ i ≤ j
theorem endM_ok {c : CuI} {s s' : St} {i j : Nat} {st st' : Nat × Nat} (h : endM c s i st = .ok s' j st') : s' = s ∧ j = i + 1 ∧ st' = st := by
  unfold endM at h
  by_cases e : c.ws[i]? = some ("end" : Str)
  · rw [if_pos e] at h
    cases h
    exact ⟨rfl, rfl, rfl⟩
  · rw [if_neg e] at h
    cases h
theorem branchM_ok {c : CuI} {l : Nat} {g : Nat → Nat × Nat → BkR} (hg : GoodB c l g) {mk : List St → List St → St} {i j : Nat} {st st' : Nat × Nat} {s : St} (h : branchM c g mk i st = .ok s j st') : ∃ t f, s = mk t f ∧ WfL c.vars c.ops t ∧ WfL c.vars c.ops f ∧ lvL t ≤ l ∧ lvL f ≤ l ∧ i < j := by
  unfold branchM at h
  cases e1 : g i st with
  | bad => rw [e1] at h; cases h
  | ok t j1 st1 =>
    rw [e1] at h
    obtain ⟨w1, l1, k1⟩ := hg _ _ _ _ _ e1
    replace h : (if c.ws[j1]? = some ("else" : Str) then (match g (j1 + 1) st1 with
      | .bad j' => StR.bad j'
      | .ok f j' st2 => if f = [] then .bad j' else endM c (mk t f) j' st2)
      else endM c (mk t []) j1 st1) = .ok s j st' := h
    by_cases ee : c.ws[j1]? = some ("else" : Str)
    · rw [if_pos ee] at h
      cases e2 : g (j1 + 1) st1 with
      | bad => rw [e2] at h; cases h
      | ok f j2 st2 =>
        rw [e2] at h
        replace h : (if f = [] then StR.bad j2 else endM c (mk t f) j2 st2) = .ok s j st' := h
        obtain ⟨w2, l2, k2⟩ := hg _ _ _ _ _ e2
        by_cases f0 : f = []
        · rw [if_pos f0] at h
          cases h
        · rw [if_neg f0] at h
          obtain ⟨rfl, rfl, _⟩ := endM_ok h
          exact ⟨t, f, rfl, w1, w2, l1, l2, by omega⟩
    · rw [if_neg ee] at h
      obtain ⟨rfl, rfl, _⟩ := endM_ok h
      exact ⟨t, [], rfl, w1, trivial, l1, Nat.zero_le _, by omega⟩
theorem nameM_of {ws l : List Str} {i : Nat} {x : Str} (h : nameM ws l i = some x) : ws[i]? = some x ∧ x ∈ l := by
  unfold nameM at h
  cases e : ws[i]? with
  | none => rw [e] at h; cases h
  | some y =>
    rw [e] at h
    replace h : (if y ∈ l then some y else none) = some x := h
    by_cases m : y ∈ l
    · rw [if_pos m] at h
      cases h
      exact ⟨rfl, m⟩
    · rw [if_neg m] at h
      cases h
theorem exprM_ok {c : CuI} {mk : Ex → St} {i j : Nat} {st st' : Nat × Nat} {s : St} (h : exprM c mk i st = .ok s j st') : ∃ e, s = mk e ∧ e.Wf c.vars c.ops ∧ e.deep ≤ 12 ∧ i < j := by
  unfold exprM at h
  cases e1 : readM c 12 i with
  | bad => rw [e1] at h; cases h
  | ok e j1 =>
    rw [e1] at h
    cases h
    obtain ⟨w, d, l⟩ := readM_ok _ _ _ _ e1
    exact ⟨e, rfl, w, d, l⟩
theorem choiceM_ok {c : CuI} {x : Str} {i j : Nat} {st st' : Nat × Nat} {s : St} (h : choiceM c x i st = .ok s j st') : s.Wf c.vars c.ops ∧ s.lv = 0 ∧ i < j := by
  unfold choiceM at h
  cases e1 : nameM c.ws c.vars i with
  | none => rw [e1] at h; cases h
  | some y =>
    rw [e1] at h
    replace h : (if x = "draw" then (match numM c.ws 1 64 (i + 1) with
        | none => StR.bad (i + 1)
        | some n => .ok (.draw y n) (i + 2) (st.1 + 1, st.2))
      else match numM c.ws 1 8 (i + 1) with
        | none => .bad (i + 1)
        | some n => .ok (.move (seatN x) y n st.2) (i + 2) (st.1, st.2 + 1)) = .ok s j st' := h
    have my := (nameM_of e1).2
    by_cases xd : x = "draw"
    · rw [if_pos xd] at h
      cases e2 : numM c.ws 1 64 (i + 1) with
      | none => rw [e2] at h; cases h
      | some n => rw [e2] at h; cases h; exact ⟨my, rfl, by omega⟩
    · rw [if_neg xd] at h
      cases e2 : numM c.ws 1 8 (i + 1) with
      | none => rw [e2] at h; cases h
      | some n => rw [e2] at h; cases h; exact ⟨my, rfl, by omega⟩
theorem stmtM_ok {c : CuI} {l : Nat} {g : Nat → Nat × Nat → BkR} {lvl : Nat} (hg : 0 < lvl → GoodB c l g ∧ l + 1 ≤ lvl) {x : Str} {st0 : Nat × Nat} (m : x ∈ opensB c lvl st0) {i j : Nat} {st st' : Nat × Nat} {s : St} (h : stmtM c g x i st = .ok s j st') : s.Wf c.vars c.ops ∧ s.lv ≤ lvl ∧ i < j := by
  have hx : (x = "if" ∨ x = "when") → 0 < lvl := fun z => by
    unfold opensB at m
    by_cases q : 0 < lvl
    · exact q
    · rw [if_neg q, List.append_nil] at m
      have t : ∀ y ∈ ((["show", "pay", "take"] : List Str) ++ ((["set"] : List Str) ++ (["draw", "first", "second"] : List Str))), y ≠ "if" ∧ y ≠ "when" := by decide +kernel
      have mm : x ∈ ((["show", "pay", "take"] : List Str) ++ ((["set"] : List Str) ++ (["draw", "first", "second"] : List Str))) := by
        rcases List.mem_append.mp m with m | m
        · exact List.mem_append_left _ m
        · refine List.mem_append_right _ ?_
          split at m
          · rcases List.mem_append.mp m with m | m
            · exact List.mem_append_left _ m
            · split at m
              · exact List.mem_append_right _ m
              · cases m
          · cases m
      rcases z with z | z
      · exact absurd z (t x mm).1
      · exact absurd z (t x mm).2
  unfold stmtM at h
  by_cases x1 : x = "if"
  · rw [if_pos x1] at h
    obtain ⟨hg, hl⟩ := hg (hx (.inl x1))
    cases e1 : readM c 12 i with
    | bad => rw [e1] at h; cases h
    | ok e j1 =>
      rw [e1] at h
      obtain ⟨w, d, k⟩ := readM_ok _ _ _ _ e1
      obtain ⟨t, f, rfl, w1, w2, l1, l2, k2⟩ := branchM_ok hg h
      exact ⟨⟨⟨w, by omega⟩, w1, w2⟩, by show max (lvL t) (lvL f) + 1 ≤ lvl; omega, by omega⟩
  rw [if_neg x1] at h
  by_cases x2 : x = "when"
  · rw [if_pos x2] at h
    obtain ⟨hg, hl⟩ := hg (hx (.inr x2))
    cases e1 : nameM c.ws c.ops i with
    | none => rw [e1] at h; cases h
    | some o =>
      rw [e1] at h
      obtain ⟨t, f, rfl, w1, w2, l1, l2, k2⟩ := branchM_ok hg h
      exact ⟨⟨(nameM_of e1).2, w1, w2⟩, by show max (lvL t) (lvL f) + 1 ≤ lvl; omega, by omega⟩
  rw [if_neg x2] at h
  by_cases x3 : x = "show"
  · rw [if_pos x3] at h
    cases e1 : nameM c.ws seatL i with
    | none => rw [e1] at h; cases h
    | some o =>
      rw [e1] at h
      obtain ⟨e, rfl, w, d, k⟩ := exprM_ok h
      exact ⟨⟨w, by omega⟩, Nat.zero_le _, by omega⟩
  rw [if_neg x3] at h
  by_cases x4 : x = "set"
  · rw [if_pos x4] at h
    cases e1 : nameM c.ws c.vars i with
    | none => rw [e1] at h; cases h
    | some o =>
      rw [e1] at h
      obtain ⟨e, rfl, w, d, k⟩ := exprM_ok h
      exact ⟨⟨(nameM_of e1).2, w, by omega⟩, Nat.zero_le _, by omega⟩
  rw [if_neg x4] at h
  by_cases x5 : x ∈ (["draw", "first", "second"] : List Str)
  · rw [if_pos x5] at h
    obtain ⟨w, d, k⟩ := choiceM_ok h
    exact ⟨w, by omega, k⟩
  rw [if_neg x5] at h
  obtain ⟨e, rfl, w, d, k⟩ := exprM_ok h
  have xp : x = "pay" ∨ x = "take" := by
    unfold opensB at m
    have t : ∀ y ∈ ((["show", "pay", "take"] : List Str) ++ (((["if"] : List Str) ++ (["when"] : List Str)) ++ ((["set"] : List Str) ++ (["draw", "first", "second"] : List Str)))), y = "if" ∨ y = "when" ∨ y = "show" ∨ y = "set" ∨ y ∈ (["draw", "first", "second"] : List Str) ∨ y = "pay" ∨ y = "take" := by decide +kernel
    have mm : x ∈ ((["show", "pay", "take"] : List Str) ++ (((["if"] : List Str) ++ (["when"] : List Str)) ++ ((["set"] : List Str) ++ (["draw", "first", "second"] : List Str)))) := by
      rcases List.mem_append.mp m with m | m
      · rcases List.mem_append.mp m with m | m
        · exact List.mem_append_left _ m
        · refine List.mem_append_right _ (List.mem_append_left _ ?_)
          split at m
          · rcases List.mem_append.mp m with m | m
            · exact List.mem_append_left _ m
            · split at m
              · exact List.mem_append_right _ m
              · cases m
          · cases m
      · refine List.mem_append_right _ (List.mem_append_right _ ?_)
        split at m
        · rcases List.mem_append.mp m with m | m
          · exact List.mem_append_left _ m
          · split at m
            · exact List.mem_append_right _ m
            · cases m
        · cases m
    rcases t x mm with z | z | z | z | z | z
    · exact absurd z x1
    · exact absurd z x2
    · exact absurd z x3
    · exact absurd z x4
    · exact absurd z x5
    · exact z
  exact ⟨⟨xp, w, by omega⟩, Nat.zero_le _, k⟩
theorem loopM_ok {c : CuI} {lvl : Nat} {f : Nat → Nat × Nat → Option StR} (hf : ∀ i st s j st', f i st = some (.ok s j st') → s.Wf c.vars c.ops ∧ s.lv ≤ lvl ∧ i < j) : ∀ n, GoodB c lvl (loopM f n)
  | 0, i, st, ss, j, st', h => by cases h; exact ⟨trivial, Nat.zero_le _, Nat.le_refl _⟩
  | n + 1, i, st, ss, j, st', h => by
    unfold loopM at h
    cases e1 : f i st with
    | none => rw [e1] at h; cases h; exact ⟨trivial, Nat.zero_le _, Nat.le_refl _⟩
    | some x =>
      cases x with
      | bad => rw [e1] at h; cases h
      | ok s j1 st1 =>
        rw [e1] at h
        replace h : (match loopM f n j1 st1 with
          | .bad j' => BkR.bad j'
          | .ok ss j' st'' => .ok (s :: ss) j' st'') = .ok ss j st' := h
        cases e2 : loopM f n j1 st1 with
        | bad => rw [e2] at h; cases h
        | ok ts j2 st2 =>
          rw [e2] at h
          cases h
          obtain ⟨w1, l1, k1⟩ := hf _ _ _ _ _ e1
          obtain ⟨w2, l2, k2⟩ := loopM_ok hf n _ _ _ _ _ e2
          exact ⟨⟨w1, w2⟩, by show max s.lv (lvL ts) ≤ lvl; omega, by omega⟩
theorem headM_ok {c : CuI} {l lvl : Nat} {g : Nat → Nat × Nat → BkR} (hg : 0 < lvl → GoodB c l g ∧ l + 1 ≤ lvl) {i j : Nat} {st st' : Nat × Nat} {s : St} (h : headM c lvl g i st = some (.ok s j st')) : s.Wf c.vars c.ops ∧ s.lv ≤ lvl ∧ i < j := by
  unfold headM at h
  cases e1 : c.ws[i]? with
  | none => rw [e1] at h; cases h
  | some x =>
    rw [e1] at h
    replace h : (if x ∈ opensB c lvl st then some (stmtM c g x (i + 1) st) else none) = some (.ok s j st') := h
    by_cases m : x ∈ opensB c lvl st
    · rw [if_pos m] at h
      obtain ⟨w, d, k⟩ := stmtM_ok hg m (Option.some.inj h)
      exact ⟨w, d, by omega⟩
    · rw [if_neg m] at h
      cases h
theorem blockM_ok {c : CuI} : ∀ l, GoodB c l (blockM c l)
  | 0 => fun i st ss j st' h => loopM_ok (fun _ _ _ _ _ => headM_ok (l := 0) (fun z => absurd z (Nat.lt_irrefl 0))) _ i st ss j st' h
  | l + 1 => fun i st ss j st' h => loopM_ok (fun _ _ _ _ _ => headM_ok (l := l) (fun _ => ⟨blockM_ok l, Nat.le_refl _⟩)) _ i st ss j st' h


theorem asc_ok' {x : Str} (h : Asc x) : PyData.strOk x = true := by
  unfold PyData.strOk
  rw [Array.all_eq_true_iff_forall_mem]
  intro c m
  have := h c (Array.mem_toList_iff.mpr m)
  simp
  omega
theorem here_some' {ws : List Str} {i : Nat} {x : Str} (h : ws[i]? = some x) : hereV ws i = .str x := by
  unfold hereV
  rw [h]
/-- a cursor whose words and names are plain -/
structure CuOk (c : CuI) : Prop where
  w : Wds c.ws
  l : c.ws.length < 90000
  v : ∀ x ∈ c.vars, PyData.strOk x = true
  o : ∀ x ∈ c.ops, PyData.strOk x = true
theorem block_shaped {c : CuI} (ok : CuOk c) {ss : List St} {l : Nat} (w : WfL c.vars c.ops ss) (d : lvL ss ≤ l) (l8 : l ≤ 8) : SeqAt.shaped (.tuple (datL ss)) = true := by
  unfold SeqAt.shaped
  have h1 : PyData.canLayAll0 (datL ss) = true := ldat_lay ok.v ok.o ss w
  have h2 := ldat_depth ss w
  rw [Bool.and_eq_true]
  refine ⟨?_, decide_eq_true ?_⟩
  · unfold PyData.canLay0
    exact h1
  · unfold PyData.depth
    omega
def prevM' (c : CuI) (lvl : Nat) : Nat → Nat × Nat → BkR := prevM c lvl

/-! ### the words of blocks -/
def seatS (p : Int) : Str := seatL.getD p.toNat "both"
def numS (n : Int) : Str := Str.ofString (toString n)
mutual
def St.words : St → List Str
  | .set x e => "set" :: x :: e.words
  | .ite e t f => "if" :: (e.words ++ (blockW t ++ ((if f = [] then [] else (("else" : Str) :: blockW f)) ++ (["end"] : List Str))))
  | .whn o t f => "when" :: o :: (blockW t ++ ((if f = [] then [] else (("else" : Str) :: blockW f)) ++ (["end"] : List Str)))
  | .draw x n => ["draw", x, numS n]
  | .move p x n _ => [seatS p, x, numS n]
  | .show a e => "show" :: seatS a :: e.words
  | .pay s e => s :: e.words
def blockW : List St → List Str
  | [] => []
  | s :: r => s.words ++ blockW r
end
theorem blockW_app : ∀ (a b : List St), blockW (a ++ b) = blockW a ++ blockW b
  | [], b => rfl
  | s :: r, b => by
    show s.words ++ blockW (r ++ b) = (s.words ++ blockW r) ++ blockW b
    rw [blockW_app r b, List.append_assoc]
mutual
/-- numbers as they are drawn -/
def St.Nb : St → Prop
  | .ite _ t f => NbL t ∧ NbL f
  | .whn _ t f => NbL t ∧ NbL f
  | .draw _ n => 0 ≤ n ∧ n < 65536
  | .move p _ n _ => (0 ≤ p ∧ p < 3) ∧ 0 ≤ n ∧ n < 65536
  | .show a _ => 0 ≤ a ∧ a < 3
  | .set _ _ => True
  | .pay _ _ => True
def NbL : List St → Prop
  | [] => True
  | s :: r => s.Nb ∧ NbL r
end
theorem nbL_get : ∀ {a : List St} {i : Nat} {s : St}, NbL a → a[i]? = some s → s.Nb
  | [], _, _, _, h => by simp at h
  | _ :: _, 0, _, h, e => by cases e; exact h.1
  | _ :: _, i + 1, _, h, e => nbL_get (i := i) h.2 (by rw [List.getElem?_cons_succ] at e; exact e)
theorem wd_e {ns ps : List Str} {e : Ex} (d : e.deep ≤ 13) : e.words.length ≤ 16382 := by
  have := words_le d
  omega
mutual
theorem words_sz {ns ps : List Str} : ∀ s : St, s.Wf ns ps → s.words.length ≤ 16400 * s.sz
  | .set x e, h => by
    have := wd_e (ns := ns) (ps := ps) h.2.2
    show e.words.length + 1 + 1 ≤ 16400 * 1
    omega
  | .ite e t f, h => by
    have h0 := wd_e (ns := ns) (ps := ps) h.1.2
    have h1 := blockW_sz t h.2.1
    have h2 := blockW_sz f h.2.2
    show (e.words ++ (blockW t ++ ((if f = [] then [] else (("else" : Str) :: blockW f)) ++ (["end"] : List Str)))).length + 1 ≤ 16400 * (1 + szL t + szL f)
    have h3 : (if f = [] then [] else (("else" : Str) :: blockW f)).length ≤ (blockW f).length + 1 := by
      split
      · exact Nat.zero_le _
      · exact Nat.le_refl _
    rw [List.length_append, List.length_append, List.length_append]
    show e.words.length + ((blockW t).length + (_ + 1)) + 1 ≤ _
    omega
  | .whn o t f, h => by
    have h1 := blockW_sz t h.2.1
    have h2 := blockW_sz f h.2.2
    show (blockW t ++ ((if f = [] then [] else (("else" : Str) :: blockW f)) ++ (["end"] : List Str))).length + 1 + 1 ≤ 16400 * (1 + szL t + szL f)
    have h3 : (if f = [] then [] else (("else" : Str) :: blockW f)).length ≤ (blockW f).length + 1 := by
      split
      · exact Nat.zero_le _
      · exact Nat.le_refl _
    rw [List.length_append, List.length_append]
    show (blockW t).length + (_ + 1) + 1 + 1 ≤ _
    omega
  | .draw x n, h => by show 3 ≤ 16400 * 1; omega
  | .move p x n k, h => by show 3 ≤ 16400 * 1; omega
  | .show a e, h => by
    have := wd_e (ns := ns) (ps := ps) h.2
    show e.words.length + 1 + 1 ≤ 16400 * 1
    omega
  | .pay s e, h => by
    have := wd_e (ns := ns) (ps := ps) h.2.2
    show e.words.length + 1 ≤ 16400 * 1
    omega
theorem blockW_sz {ns ps : List Str} : ∀ ss : List St, WfL ns ps ss → (blockW ss).length ≤ 16400 * szL ss
  | [], _ => Nat.zero_le _
  | s :: r, h => by
    have h1 := words_sz s h.1
    have h2 := blockW_sz r h.2
    show (s.words ++ blockW r).length ≤ 16400 * (s.sz + szL r)
    rw [List.length_append]
    omega
end
structure NmOk (ns ps : List Str) : Prop where
  n : ∀ x ∈ ns, PyData.strOk x = true
  p : ∀ x ∈ ps, PyData.strOk x = true
theorem shaped_of {ns ps : List Str} (ok : NmOk ns ps) {ss : List St} (w : WfL ns ps ss) (d : lvL ss ≤ 9) : SeqAt.shaped (.tuple (datL ss)) = true := by
  unfold SeqAt.shaped
  have h1 : PyData.canLayAll0 (datL ss) = true := ldat_lay ok.n ok.p ss w
  have h2 := ldat_depth ss w
  rw [Bool.and_eq_true]
  refine ⟨?_, decide_eq_true ?_⟩
  · unfold PyData.canLay0
    exact h1
  · unfold PyData.depth
    omega
def branchW (t f : List St) : List Str := blockW t ++ ((if f = [] then [] else (("else" : Str) :: blockW f)) ++ (["end"] : List Str))
theorem seat_at {p : Int} (h0 : 0 ≤ p) (h3 : p < 3) : atI (seatL.map V.str) p = some (.str (seatS p)) := by
  obtain ⟨n, rfl⟩ := Int.eq_ofNat_of_zero_le h0
  match n, h3 with
  | 0, _ => exact atI_nat (j := 0) rfl
  | 1, _ => exact atI_nat (j := 1) rfl
  | 2, _ => exact atI_nat (j := 2) rfl
  | n + 3, h => omega

/-! ### options, variables and rounds -/
inductive HdR (α : Type) where
  | ok (xs : List α) (j : Nat)
  | bad (j : Nat)
def HdK {α : Type} (K : PySem.W.Frag) (C B : Addr) (V_ : Hp → V → α → Prop) (H : Hp) (c : CuI) (r : HdR α) (Q : VK) (E : XK) : Prop := match r with
  | .ok xs j => ∀ p vs H', But c.a H H' → H p = none → H' p = some (.lst vs) → Paired (V_ H') vs xs → CuX K C H' c j → Q (.ref p) H'
  | .bad j => ∀ d H', But c.a H H' → H' d = some (.xd [("at", .int (j : Nat))]) → E (.ref B) (some d) H'
open Classical in
noncomputable def freshM (ws ns : List Str) (i : Nat) : Option Str := match ws[i]? with
  | some x => if NameP x ∧ x ∉ ns then some x else none
  | none => none
open Classical in
theorem freshM_some {ws ns : List Str} {i : Nat} {x : Str} (e : ws[i]? = some x) (n : NameP x) (m : x ∉ ns) : freshM ws ns i = some x := by
  unfold freshM
  rw [e]
  show (if NameP x ∧ x ∉ ns then some x else none) = _
  rw [if_pos ⟨n, m⟩]
open Classical in
theorem freshM_none {ws ns : List Str} {i : Nat} (h : ∀ x v, ws[i]? = some x → ¬ Fit (.fresh ns) x v) : freshM ws ns i = none := by
  unfold freshM
  cases e : ws[i]? with
  | none => rfl
  | some x =>
    show (if NameP x ∧ x ∉ ns then some x else none) = _
    rw [if_neg fun m => h x (.str x) e ⟨m.1, m.2, rfl⟩]
noncomputable def optsM (ws : List Str) : Nat → List (Str × Bool) → Nat → HdR (Str × Bool)
  | 0, acc, i => .ok acc i
  | f + 1, acc, i => if ws[i]? = some ("option" : Str) ∧ acc.length < 6 then (match freshM ws (acc.map (·.1)) (i + 1) with
      | none => .bad (i + 1)
      | some x => match nameM ws ["on", "off"] (i + 2) with
        | none => .bad (i + 2)
        | some y => optsM ws f (acc ++ [(x, decide (y = "on"))]) (i + 3))
    else .ok acc i
def OptV (H : Hp) (v : V) (q : Str × Bool) : Prop := ∃ a, v = .ref a ∧ H a = some (.tup [.str q.1, .bl q.2])
theorem OptV.keep {H H' : Hp} (k : KeepT H H') {v : V} {q : Str × Bool} (h : OptV H v q) : OptV H' v q := by
  obtain ⟨a, e, t⟩ := h
  exact ⟨a, e, k _ _ t⟩
noncomputable def varsM (ws : List Str) : Nat → List (Str × Int) → Nat → HdR (Str × Int)
  | 0, acc, i => .ok acc i
  | f + 1, acc, i => if ws[i]? = some ("var" : Str) ∧ acc.length < 12 then (match freshM ws (acc.map (·.1)) (i + 1) with
      | none => .bad (i + 1)
      | some x => match numM ws 1 65535 (i + 2) with
        | none => .bad (i + 2)
        | some y => varsM ws f (acc ++ [(x, ((y : Nat) : Int))]) (i + 3))
    else .ok acc i
def VarV (H : Hp) (v : V) (q : Str × Int) : Prop := ∃ a, v = .ref a ∧ H a = some (.tup [.str q.1, .int q.2])
theorem VarV.keep {H H' : Hp} (k : KeepT H H') {v : V} {q : Str × Int} (h : VarV H v q) : VarV H' v q := by
  obtain ⟨a, e, t⟩ := h
  exact ⟨a, e, k _ _ t⟩
/-- a tuple that begins with a name -/
def NmV (H : Hp) (v : V) (x : Str) : Prop := ∃ a r, v = .ref a ∧ H a = some (.tup (.str x :: r))
theorem OptV.nm {H : Hp} {vs : List V} {xs : List (Str × Bool)} (h : Paired (OptV H) vs xs) : Paired (NmV H) vs (xs.map (·.1)) := by
  induction h with
  | nil => exact .nil
  | cons r _ ih =>
    obtain ⟨a, e, t⟩ := r
    exact .cons ⟨a, _, e, t⟩ ih
theorem VarV.nm {H : Hp} {vs : List V} {xs : List (Str × Int)} (h : Paired (VarV H) vs xs) : Paired (NmV H) vs (xs.map (·.1)) := by
  induction h with
  | nil => exact .nil
  | cons r _ ih =>
    obtain ⟨a, e, t⟩ := r
    exact .cons ⟨a, _, e, t⟩ ih
theorem paired_snocC {α β : Type} {R : α → β → Prop} {xs : List α} {ys : List β} {x : α} {y : β} (h : Paired R xs ys) (r : R x y) : Paired R (xs ++ [x]) (ys ++ [y]) := paired_app h (.cons r .nil)

noncomputable def rndsM (c : CuI) : Nat → List (Str × List St) → Nat → Nat × Nat → HdR (Str × List St)
  | 0, acc, i, _ => .ok acc i
  | f + 1, acc, i, st => if c.ws[i]? = some ("round" : Str) ∧ acc.length < 8 then (match freshM c.ws (acc.map (·.1)) (i + 1) with
      | none => .bad (i + 1)
      | some x => match blockM c 8 (i + 2) st with
        | .bad j => .bad j
        | .ok ss j st' => if c.ws[j]? = some ("end" : Str) then rndsM c f (acc ++ [(x, ss)]) (j + 1) st' else .bad j)
    else .ok acc i
def RndV (K : PySem.W.Frag) (H : Hp) (v : V) (q : Str × List St) : Prop := ∃ a b ws, v = .ref a ∧ H a = some (.tup [.str q.1, .ref b]) ∧ H b = some (.tup ws) ∧ Bv K H ws q.2
theorem RndV.keep {K : PySem.W.Frag} {H H' : Hp} (k : KeepT H H') {v : V} {q : Str × List St} (h : RndV K H v q) : RndV K H' v q := by
  obtain ⟨a, b, ws, e, t, u, w⟩ := h
  exact ⟨a, b, ws, e, k _ _ t, k _ _ u, w.keep k⟩
theorem RndV.nm {K : PySem.W.Frag} {H : Hp} {vs : List V} {xs : List (Str × List St)} (h : Paired (RndV K H) vs xs) : Paired (NmV H) vs (xs.map (·.1)) := by
  induction h with
  | nil => exact .nil
  | cons r _ ih =>
    obtain ⟨a, b, ws, e, t, _⟩ := r
    exact .cons ⟨a, _, e, t⟩ ih

/-! ### words of a text, as in k10 -/
def joinC : List (List Nat) → List Nat
  | [] => []
  | [a] => a
  | a :: b :: r => a ++ 32 :: joinC (b :: r)
theorem tw_free : ∀ (a r : List Nat), 32 ∉ a → (a ++ 32 :: r).takeWhile (fun c => c != 32) = a ∧ (a ++ 32 :: r).dropWhile (fun c => c != 32) = 32 :: r
  | [], r, _ => by simp
  | x :: a, r, h => by
    have hx : x ≠ 32 := fun e => h (by rw [e]; exact List.mem_cons_self)
    have ih := tw_free a r fun m => h (List.mem_cons_of_mem x m)
    have bx : (x != 32) = true := by simpa using hx
    rw [List.cons_append, List.takeWhile_cons, List.dropWhile_cons, if_pos bx, if_pos bx, ih.1, ih.2]
    exact ⟨rfl, rfl⟩
theorem tw_all : ∀ (a : List Nat), 32 ∉ a → a.takeWhile (fun c => c != 32) = a ∧ a.dropWhile (fun c => c != 32) = []
  | [], _ => by simp
  | x :: a, h => by
    have hx : x ≠ 32 := fun e => h (by rw [e]; exact List.mem_cons_self)
    have ih := tw_all a fun m => h (List.mem_cons_of_mem x m)
    have bx : (x != 32) = true := by simpa using hx
    rw [List.takeWhile_cons, List.dropWhile_cons, if_pos bx, if_pos bx, ih.1, ih.2]
    exact ⟨rfl, rfl⟩
theorem join_uniq : ∀ (ps qs : List (List Nat)), ps ≠ [] → qs ≠ [] → (∀ p ∈ ps, 32 ∉ p) → (∀ p ∈ qs, 32 ∉ p) → joinC ps = joinC qs → ps = qs
  | [], _, h, _, _, _, _ => absurd rfl h
  | _, [], _, h, _, _, _ => absurd rfl h
  | [a], [b], _, _, _, _, e => by
    have e' : a = b := e
    rw [e']
  | [a], b :: c :: r, _, _, ha, hb, e => by
    have e' : a = b ++ 32 :: joinC (c :: r) := e
    have h1 := tw_all a (ha a List.mem_cons_self)
    have h2 := tw_free b (joinC (c :: r)) (hb b List.mem_cons_self)
    rw [← e', h1.2] at h2
    cases h2.2
  | a :: c :: r, [b], _, _, ha, hb, e => by
    have e' : a ++ 32 :: joinC (c :: r) = b := e
    have h1 := tw_all b (hb b List.mem_cons_self)
    have h2 := tw_free a (joinC (c :: r)) (ha a List.mem_cons_self)
    rw [e', h1.2] at h2
    cases h2.2
  | a :: c :: r, b :: d :: u, _, _, ha, hb, e => by
    have e' : a ++ 32 :: joinC (c :: r) = b ++ 32 :: joinC (d :: u) := e
    have h1 := tw_free a (joinC (c :: r)) (ha a List.mem_cons_self)
    have h2 := tw_free b (joinC (d :: u)) (hb b List.mem_cons_self)
    rw [e'] at h1
    have eab : a = b := h1.1.symm.trans h2.1
    have et : joinC (c :: r) = joinC (d :: u) := by
      have q := h1.2.symm.trans h2.2
      injection q
    have ih := join_uniq (c :: r) (d :: u) (by simp) (by simp) (fun p m => ha p (List.mem_cons_of_mem _ m)) (fun p m => hb p (List.mem_cons_of_mem _ m)) et
    rw [eab, ih]
/-- the words ws of a text x -/
def Parts (ws : List Str) (x : Str) : Prop := (x.length = 0 ∧ ws = []) ∨ (0 < x.length ∧ ws ≠ [] ∧ (∀ w ∈ ws, 32 ∉ w.cps.toList) ∧ joinC (ws.map (·.cps.toList)) = x.cps.toList)
theorem cps_inj : ∀ {ws us : List Str}, ws.map (·.cps.toList) = us.map (·.cps.toList) → ws = us
  | [], [], _ => rfl
  | [], _ :: _, h => by simp at h
  | _ :: _, [], h => by simp at h
  | w :: ws, u :: us, h => by
    rw [List.map_cons, List.map_cons] at h
    injection h with h1 h2
    rw [ext_toList h1, cps_inj h2]
theorem parts_uniq {ws us : List Str} {x : Str} (h : Parts ws x) (g : Parts us x) : ws = us := by
  rcases h with ⟨h0, rfl⟩ | ⟨h0, h1, h2, h3⟩
  · rcases g with ⟨_, rfl⟩ | ⟨g0, _⟩
    · rfl
    · omega
  · rcases g with ⟨g0, _⟩ | ⟨g0, g1, g2, g3⟩
    · omega
    · refine cps_inj (join_uniq _ _ (by simpa using h1) (by simpa using g1) (fun p m => ?_) (fun p m => ?_) (h3.trans g3.symm))
      · obtain ⟨w, hw, rfl⟩ := List.mem_map.mp m
        exact h2 w hw
      · obtain ⟨w, hw, rfl⟩ := List.mem_map.mp m
        exact g2 w hw
theorem join_cps : ∀ ws : List Str, (Str.join ⟨#[32]⟩ ws).cps.toList = joinC (ws.map (·.cps.toList))
  | [] => rfl
  | [a] => rfl
  | a :: b :: r => by
    have ih := join_cps (b :: r)
    show ((a ++ (⟨#[32]⟩ : Str)) ++ Str.join ⟨#[32]⟩ (b :: r)).cps.toList = a.cps.toList ++ 32 :: joinC ((b :: r).map (·.cps.toList))
    rw [← ih]
    show ((a.cps ++ #[32]) ++ (Str.join ⟨#[32]⟩ (b :: r)).cps).toList = _
    simp
theorem parts_split {x : Str} (h : 0 < x.length) : Parts (Txt.split x ⟨#[32]⟩) x := by
  refine .inr ⟨h, fun z => ?_, fun w m => StrLaws.split_free x 32 w m, ?_⟩
  · have := split_pos x ⟨#[32]⟩
    rw [z] at this
    simp at this
  · rw [← join_cps, StrLaws.join_split]
theorem parts_join {ws : List Str} {x : Str} (h : Parts ws x) : Txt.join ⟨#[32]⟩ ws = x := by
  show Builtin.Str.glued _ _ = x
  rw [StrLaws.glued_eq_join]
  rcases h with ⟨h0, rfl⟩ | ⟨_, _, _, h3⟩
  · refine ext_toList ?_
    have : x.cps.toList = [] := List.eq_nil_of_length_eq_zero h0
    rw [this]
    rfl
  · exact ext_toList ((join_cps ws).trans h3)
theorem joinC_len : ∀ ps : List (List Nat), (ps.map List.length).sum + ps.length ≤ (joinC ps).length + 1
  | [] => by simp
  | [a] => by simp [joinC]
  | a :: b :: r => by
    have ih := joinC_len (b :: r)
    show ((a :: b :: r).map List.length).sum + (a :: b :: r).length ≤ (a ++ 32 :: joinC (b :: r)).length + 1
    rw [List.map_cons, List.sum_cons, List.length_cons, List.length_append]
    show a.length + _ + (_ + 1) ≤ a.length + ((joinC (b :: r)).length + 1) + 1
    omega
theorem parts_len {ws : List Str} {x : Str} (h : Parts ws x) : (ws.map (·.length)).sum + ws.length ≤ x.length + 1 := by
  rcases h with ⟨_, rfl⟩ | ⟨_, _, _, h3⟩
  · simp
  · have q := joinC_len (ws.map (·.cps.toList))
    rw [h3, List.length_map, List.map_map] at q
    exact q
theorem joinC_mem : ∀ {ps : List (List Nat)} {p : List Nat} {c : Nat}, p ∈ ps → c ∈ p → c ∈ joinC ps
  | [], p, _, h, _ => by cases h
  | [a], p, _, h, m => by
    rw [List.mem_singleton.mp h] at m
    exact m
  | a :: b :: r, p, c, h, m => by
    show c ∈ a ++ 32 :: joinC (b :: r)
    rcases List.mem_cons.mp h with rfl | h
    · exact List.mem_append_left _ m
    · exact List.mem_append_right _ (List.mem_cons_of_mem _ (joinC_mem h m))

def rTupOf (K : PySem.W.Frag) : List V → Hp → VK → Prop := fun xs H Q => ∃ p ys, xs = [V.ref p] ∧ ((SqL K H p ys ∧ ∀ l, H l = none → Q (.ref l) (upd H l (.tup ys))) ∨ (SqT K H p ys ∧ Q (.ref p) H))
/-- a game at g -/
def GameS (K : PySem.W.Frag) (C : Addr) (H : Hp) (g : Addr) (os : List (Str × Bool)) (us : List (Str × Int)) (rs : List (Str × List St)) : Prop := ∃ dx o u r ov uv rv, H g = some (.ins C dx [("options", .ref o), ("variables", .ref u), ("rounds", .ref r)]) ∧ H o = some (.tup ov) ∧ Paired (OptV H) ov os ∧ H u = some (.tup uv) ∧ Paired (VarV H) uv us ∧ H r = some (.tup rv) ∧ Paired (RndV K H) rv rs
theorem paired_take_snoc {α β : Type} {R : α → β → Prop} {xs : List α} {ys : List β} {i : Nat} {x : α} {y : β} (h : Paired R xs (ys.take i)) (e : ys[i]? = some y) (r : R x y) : Paired R (xs ++ [x]) (ys.take (i + 1)) := by
  rw [List.take_add_one, e]
  exact paired_snocC h r
theorem keepT_ins {H H' : Hp} {x C dx : Addr} {fs : List (Str × V)} (hx : H x = some (.ins C dx fs)) (b : But x H H') : KeepT H H' := fun c ys e => b c _ (fun z => by rw [z, hx] at e; cases e) e

open Classical in
theorem freshM_of {ws ns : List Str} {i : Nat} {x : Str} (h : freshM ws ns i = some x) : x ∈ ws ∧ x ∉ ns := by
  unfold freshM at h
  cases e : ws[i]? with
  | none => rw [e] at h; cases h
  | some y =>
    rw [e] at h
    replace h : (if NameP y ∧ y ∉ ns then some y else none) = some x := h
    by_cases p : NameP y ∧ y ∉ ns
    · rw [if_pos p] at h
      cases h
      exact ⟨List.mem_of_getElem? e, p.2⟩
    · rw [if_neg p] at h
      cases h
theorem optsM_names {ws : List Str} : ∀ (f : Nat) (acc : List (Str × Bool)) (i : Nat) (xs : List (Str × Bool)) (j : Nat), optsM ws f acc i = .ok xs j → (∀ x ∈ acc.map (·.1), x ∈ ws) → acc.length ≤ 6 → (∀ x ∈ xs.map (·.1), x ∈ ws) ∧ xs.length ≤ 6
  | 0, acc, i, xs, j, h, g, l => by cases h; exact ⟨g, l⟩
  | f + 1, acc, i, xs, j, h, g, l => by
    unfold optsM at h
    split at h
    · rename_i c
      cases e1 : freshM ws (acc.map (·.1)) (i + 1) with
      | none => rw [e1] at h; cases h
      | some x =>
        rw [e1] at h
        replace h : (match nameM ws ["on", "off"] (i + 2) with
          | none => HdR.bad (i + 2)
          | some y => optsM ws f (acc ++ [(x, decide (y = "on"))]) (i + 3)) = .ok xs j := h
        cases e2 : nameM ws ["on", "off"] (i + 2) with
        | none => rw [e2] at h; cases h
        | some y =>
          rw [e2] at h
          refine optsM_names f _ _ xs j h (fun z mz => ?_) (by rw [List.length_append]; show acc.length + 1 ≤ 6; omega)
          rw [List.map_append] at mz
          rcases List.mem_append.mp mz with mz | mz
          · exact g z mz
          · rw [List.mem_singleton.mp mz]
            exact (freshM_of e1).1
    · cases h
      exact ⟨g, l⟩
theorem varsM_names {ws : List Str} : ∀ (f : Nat) (acc : List (Str × Int)) (i : Nat) (xs : List (Str × Int)) (j : Nat), varsM ws f acc i = .ok xs j → (∀ x ∈ acc.map (·.1), x ∈ ws) → acc.length ≤ 12 → (∀ x ∈ xs.map (·.1), x ∈ ws) ∧ xs.length ≤ 12
  | 0, acc, i, xs, j, h, g, l => by cases h; exact ⟨g, l⟩
  | f + 1, acc, i, xs, j, h, g, l => by
    unfold varsM at h
    split at h
    · rename_i c
      cases e1 : freshM ws (acc.map (·.1)) (i + 1) with
      | none => rw [e1] at h; cases h
      | some x =>
        rw [e1] at h
        replace h : (match numM ws 1 65535 (i + 2) with
          | none => HdR.bad (i + 2)
          | some y => varsM ws f (acc ++ [(x, ((y : Nat) : Int))]) (i + 3)) = .ok xs j := h
        cases e2 : numM ws 1 65535 (i + 2) with
        | none => rw [e2] at h; cases h
        | some y =>
          rw [e2] at h
          refine varsM_names f _ _ xs j h (fun z mz => ?_) (by rw [List.length_append]; show acc.length + 1 ≤ 12; omega)
          rw [List.map_append] at mz
          rcases List.mem_append.mp mz with mz | mz
          · exact g z mz
          · rw [List.mem_singleton.mp mz]
            exact (freshM_of e1).1
    · cases h
      exact ⟨g, l⟩
theorem rndsM_len {c : CuI} : ∀ (f : Nat) (acc : List (Str × List St)) (i : Nat) (st : Nat × Nat) (xs : List (Str × List St)) (j : Nat), rndsM c f acc i st = .ok xs j → acc.length ≤ 8 → xs.length ≤ 8
  | 0, acc, i, st, xs, j, h, l => by cases h; exact l
  | f + 1, acc, i, st, xs, j, h, l => by
    unfold rndsM at h
    split at h
    · rename_i cc
      cases e1 : freshM c.ws (acc.map (·.1)) (i + 1) with
      | none => rw [e1] at h; cases h
      | some x =>
        rw [e1] at h
        replace h : (match blockM c 8 (i + 2) st with
          | .bad j => HdR.bad j
          | .ok ss j st' => if c.ws[j]? = some ("end" : Str) then rndsM c f (acc ++ [(x, ss)]) (j + 1) st' else .bad j) = .ok xs j := h
        cases e2 : blockM c 8 (i + 2) st with
        | bad => rw [e2] at h; cases h
        | ok ss j2 st2 =>
          rw [e2] at h
          replace h : (if c.ws[j2]? = some ("end" : Str) then rndsM c f (acc ++ [(x, ss)]) (j2 + 1) st2 else HdR.bad j2) = .ok xs j := h
          split at h
          · exact rndsM_len f _ _ _ xs j h (by rw [List.length_append]; show acc.length + 1 ≤ 8; omega)
          · cases h
    · cases h
      exact l
/-- the cursor of the rounds -/
def Cur (c : CuI) (ws : List Str) (os : List (Str × Bool)) (us : List (Str × Int)) : Prop := c.ws = ws ∧ c.ops = os.map (·.1) ∧ c.vars = us.map (·.1) ∧ c.se = false
def GmK (K : PySem.W.Frag) (C B : Addr) (H : Hp) (ws : List Str) (Q : VK) (E : XK) : Prop := match optsM ws 7 [] 0 with
  | .bad j => ∀ d H', Same H H' → H' d = some (.xd [("at", .int (j : Nat))]) → E (.ref B) (some d) H'
  | .ok os j => match varsM ws 13 [] j with
    | .bad j => ∀ d H', Same H H' → H' d = some (.xd [("at", .int (j : Nat))]) → E (.ref B) (some d) H'
    | .ok us j => ∀ c, Cur c ws os us → match rndsM c 9 [] j (0, 0) with
      | .bad j => ∀ d H', Same H H' → H' d = some (.xd [("at", .int (j : Nat))]) → E (.ref B) (some d) H'
      | .ok rs j => (ws[j]? = none → ∀ g H', Same H H' → H g = none → GameS K C H' g os us rs → Q (.ref g) H') ∧
        (ws[j]? ≠ none → ∀ d H', Same H H' → H' d = some (.xd [("at", .int (j : Nat))]) → E (.ref B) (some d) H')

/-! ### the words of data of a game give the data back -/
theorem rows_len2 (e : Ex) (l : Nat) : (e.rows l).length = e.words.length := by rw [← rows_words e l, List.length_map]
theorem rows_lev : ∀ (e : Ex) (l : Nat) (q : Str × Nat), q ∈ e.rows l → q.2 + 1 ≤ l + e.deep
  | .num n, l, q, m => by
    rw [List.mem_singleton.mp m]
    exact Nat.le_refl _
  | .var x, l, q, m => by
    rw [List.mem_singleton.mp m]
    exact Nat.le_refl _
  | .long, l, q, m => by
    rw [List.mem_singleton.mp m]
    exact Nat.le_refl _
  | .view e, l, q, m => by
    have d := deep_posR e
    show q.2 + 1 ≤ l + (e.deep + 1)
    rcases List.mem_cons.mp m with rfl | m
    · show l + 1 + 1 ≤ _
      omega
    · have := rows_lev e (l + 1) q m
      omega
  | .pick x a b, l, q, m => by
    have d := deep_posR a
    show q.2 + 1 ≤ l + (max a.deep b.deep + 1)
    rcases List.mem_cons.mp m with rfl | m
    · show l + 1 + 1 ≤ _
      omega
    rcases List.mem_cons.mp m with rfl | m
    · show l + 1 ≤ _
      omega
    rcases List.mem_append.mp m with m | m
    · have := rows_lev a (l + 1) q m
      omega
    · have := rows_lev b (l + 1) q m
      omega
  | .op s a b, l, q, m => by
    have d := deep_posR a
    show q.2 + 1 ≤ l + (max a.deep b.deep + 1)
    rcases List.mem_cons.mp m with rfl | m
    · show l + 1 + 1 ≤ _
      omega
    rcases List.mem_append.mp m with m | m
    · have := rows_lev a (l + 1) q m
      omega
    · have := rows_lev b (l + 1) q m
      omega
theorem fbad_all {b : Nat} : ∀ (xs : List (Str × Nat)), (∀ q ∈ xs, q.2 ≤ b) → fbad b xs = none
  | [], _ => rfl
  | q :: r, h => by
    show (if b < q.2 then some 0 else (fbad b r).map (· + 1)) = none
    have := h q List.mem_cons_self
    rw [if_neg (by omega), fbad_all r fun z m => h z (List.mem_cons_of_mem _ m)]
    rfl
theorem read_e {c : CuI} (hv : ∀ x ∈ c.vars, Nm x) {e : Ex} {room i : Nat} (w : e.Wf c.vars c.ops) (s : e.Se c.se) (d : e.deep ≤ room) (sub : SubAt c.ws i e.words) : readM c room i = .ok e (i + e.words.length) := by
  have dp := deep_posR e
  have := read_rows hv e room 1 i room w s (by omega) (by omega) (by rw [rows_words]; exact sub)
  rw [this, fbad_all _ fun q m => by have := rows_lev e 1 q m; omega]
  show RdR.ok e _ = _
  rw [rows_len2]
/-- an expression of a game -/
def EGd (vs os : List Str) (e : Ex) : Prop := e.Wf vs os ∧ e.deep ≤ 12 ∧ e.Se false
mutual
/-- a statement as a game has it: from so many draws and moves to so many -/
def St.G (vs os : List Str) : St → Nat × Nat → Nat × Nat → Prop
  | .set x e, a, b => x ∈ vs ∧ EGd vs os e ∧ b = a
  | .ite e t f, a, b => EGd vs os e ∧ ∃ m, GL vs os t a m ∧ GL vs os f m b
  | .whn o t f, a, b => o ∈ os ∧ ∃ m, GL vs os t a m ∧ GL vs os f m b
  | .draw x n, a, b => x ∈ vs ∧ (1 ≤ n ∧ n ≤ 64) ∧ a.1 + a.2 < 24 ∧ b = (a.1 + 1, a.2)
  | .move p x n k, a, b => (p = 1 ∨ p = 2) ∧ x ∈ vs ∧ (1 ≤ n ∧ n ≤ 8) ∧ k = ((a.2 : Nat) : Int) ∧ a.1 + a.2 < 24 ∧ b = (a.1, a.2 + 1)
  | .show p e, a, b => (0 ≤ p ∧ p < 3) ∧ EGd vs os e ∧ b = a
  | .pay s e, a, b => (s = "pay" ∨ s = "take") ∧ EGd vs os e ∧ b = a
def GL (vs os : List Str) : List St → Nat × Nat → Nat × Nat → Prop
  | [], a, b => b = a
  | s :: r, a, b => ∃ m, s.G vs os a m ∧ GL vs os r m b
end
def wd0 : St → Str
  | .set _ _ => "set" | .ite _ _ _ => "if" | .whn _ _ _ => "when" | .draw _ _ => "draw" | .move p _ _ _ => seatS p | .show _ _ => "show" | .pay s _ => s
theorem words_hd (s : St) : ∃ r, s.words = wd0 s :: r := by
  cases s <;> exact ⟨_, rfl⟩
theorem SubAt.len {ws xs : List Str} {i : Nat} (h : SubAt ws i xs) (n : xs ≠ []) : i + xs.length ≤ ws.length := by
  have l : 0 < xs.length := List.length_pos_iff.mpr n
  have e : xs[xs.length - 1]? = some xs[xs.length - 1] := List.getElem?_eq_getElem (by omega)
  have := (List.getElem?_eq_some_iff.mp (h _ _ e)).1
  omega
/-- what ends a block -/
def Stop (ws : List Str) (j : Nat) : Prop := ∀ x, ws[j]? = some x → x = "end" ∨ x = "else"
def RB (c : CuI) (l : Nat) (g : Nat → Nat × Nat → BkR) : Prop := ∀ (ss : List St) (i : Nat) (a b : Nat × Nat), GL c.vars c.ops ss a b → lvL ss ≤ l → SubAt c.ws i (blockW ss) → Stop c.ws (i + (blockW ss).length) → g i a = .ok ss (i + (blockW ss).length) b
theorem endM_is {c : CuI} {s : St} {j : Nat} {st : Nat × Nat} (h : c.ws[j]? = some ("end" : Str)) : endM c s j st = .ok s (j + 1) st := by
  unfold endM
  rw [if_pos h]
theorem branch_back {c : CuI} {l : Nat} {g : Nat → Nat × Nat → BkR} (hg : RB c l g) (mk : List St → List St → St) {t f : List St} {i : Nat} {a m b : Nat × Nat} (gt : GL c.vars c.ops t a m) (gf : GL c.vars c.ops f m b) (lt : lvL t ≤ l) (lf : lvL f ≤ l) (sub : SubAt c.ws i (branchW t f)) :
    branchM c g mk i a = .ok (mk t f) (i + (branchW t f).length) b := by
  have s1 := sub.left
  have s2 := sub.right
  unfold branchM
  cases f with
  | nil =>
    have e : c.ws[i + (blockW t).length]? = some ("end" : Str) := s2.head
    rw [hg t i a m gt lt s1 fun x h => by rw [e] at h; exact .inl (Option.some.inj h).symm]
    show (if c.ws[i + (blockW t).length]? = some ("else" : Str) then _ else endM c (mk t []) (i + (blockW t).length) m) = _
    have mb : b = m := gf
    rw [if_neg (by rw [e]; exact fun z => absurd (Option.some.inj z) (by decide +kernel)), endM_is e, mb]
    show StR.ok _ _ _ = StR.ok _ (i + (blockW t ++ (([] : List Str) ++ (["end"] : List Str))).length) _
    rw [List.length_append]
    rfl
  | cons s r =>
    have s2' : SubAt c.ws (i + (blockW t).length) (("else" : Str) :: (blockW (s :: r) ++ (["end"] : List Str))) := s2
    have e : c.ws[i + (blockW t).length]? = some ("else" : Str) := s2'.head
    have s3 := s2'.tail.left
    have s4 := s2'.tail.right
    have e4 : c.ws[i + (blockW t).length + 1 + (blockW (s :: r)).length]? = some ("end" : Str) := s4.head
    rw [hg t i a m gt lt s1 fun x h => by rw [e] at h; exact .inr (Option.some.inj h).symm]
    show (if c.ws[i + (blockW t).length]? = some ("else" : Str) then (match g (i + (blockW t).length + 1) m with
      | .bad j' => StR.bad j'
      | .ok f j' st2 => if f = [] then .bad j' else endM c (mk t f) j' st2) else _) = _
    rw [if_pos e, hg (s :: r) _ m b gf lf s3 fun x h => by rw [e4] at h; exact .inl (Option.some.inj h).symm]
    show (if (s :: r) = [] then _ else endM c (mk t (s :: r)) _ b) = _
    rw [if_neg (fun z => by cases z), endM_is e4]
    show StR.ok _ _ _ = StR.ok _ (i + (blockW t ++ ((("else" : Str) :: blockW (s :: r)) ++ (["end"] : List Str))).length) _
    rw [List.length_append, List.length_append, List.length_cons]
    have : i + (blockW t).length + 1 + (blockW (s :: r)).length + 1 = i + ((blockW t).length + ((blockW (s :: r)).length + 1 + 1)) := by omega
    rw [this]
    rfl
theorem nameM_is {ws l : List Str} {i : Nat} {x : Str} (e : ws[i]? = some x) (m : x ∈ l) : nameM ws l i = some x := by
  unfold nameM
  rw [e]
  show (if x ∈ l then some x else none) = _
  rw [if_pos m]
theorem numM_is {ws : List Str} {lo hi i n : Nat} (e : ws[i]? = some (numS ((n : Nat) : Int))) (h : n ≤ 65535) (l : lo ≤ n ∧ n ≤ hi) : numM ws lo hi i = some n := numM_some e h (TL.tl_num n) l
theorem seat_facts : (∀ p : Int, (p = 1 ∨ p = 2) → seatN (seatS p) = p ∧ seatS p ≠ "draw" ∧ seatS p ∈ (["draw", "first", "second"] : List Str) ∧ seatS p ≠ "if" ∧ seatS p ≠ "when" ∧ seatS p ≠ "show" ∧ seatS p ≠ "set") := by
  rintro p (rfl | rfl) <;> decide +kernel
theorem seat_in {p : Int} (h : 0 ≤ p ∧ p < 3) : seatS p ∈ seatL ∧ seatN (seatS p) = p := by
  obtain ⟨n, rfl⟩ := Int.eq_ofNat_of_zero_le h.1
  match n, h.2 with
  | 0, _ => decide +kernel
  | 1, _ => decide +kernel
  | 2, _ => decide +kernel
  | n + 3, h => omega
theorem ops_in {c : CuI} {x : Str} (m : x ∈ c.ops) : (!c.ops.isEmpty) = true := by
  cases h : c.ops with
  | nil => rw [h] at m; cases m
  | cons _ _ => rfl
theorem vars_in {c : CuI} {x : Str} (m : x ∈ c.vars) : (!c.vars.isEmpty) = true := by
  cases h : c.vars with
  | nil => rw [h] at m; cases m
  | cons _ _ => rfl
theorem opB_base {c : CuI} {lvl : Nat} {st : Nat × Nat} {x : Str} (h : x ∈ (["show", "pay", "take"] : List Str)) : x ∈ opensB c lvl st := List.mem_append_left _ (List.mem_append_left _ h)
theorem opB_if {c : CuI} {lvl : Nat} {st : Nat × Nat} (h : 0 < lvl) : ("if" : Str) ∈ opensB c lvl st := by
  refine List.mem_append_left _ (List.mem_append_right _ ?_)
  rw [if_pos h]
  exact List.mem_append_left _ List.mem_cons_self
theorem opB_when {c : CuI} {lvl : Nat} {st : Nat × Nat} {o : Str} (h : 0 < lvl) (m : o ∈ c.ops) : ("when" : Str) ∈ opensB c lvl st := by
  refine List.mem_append_left _ (List.mem_append_right _ ?_)
  rw [if_pos h]
  refine List.mem_append_right _ ?_
  rw [if_pos (ops_in m)]
  exact List.mem_cons_self
theorem opB_set {c : CuI} {lvl : Nat} {st : Nat × Nat} {o : Str} (m : o ∈ c.vars) : ("set" : Str) ∈ opensB c lvl st := by
  refine List.mem_append_right _ ?_
  rw [if_pos (vars_in m)]
  exact List.mem_append_left _ List.mem_cons_self
theorem opB_draw {c : CuI} {lvl : Nat} {st : Nat × Nat} {o x : Str} (m : o ∈ c.vars) (h : st.1 + st.2 < 24) (hx : x ∈ (["draw", "first", "second"] : List Str)) : x ∈ opensB c lvl st := by
  refine List.mem_append_right _ ?_
  rw [if_pos (vars_in m), if_pos h]
  exact List.mem_append_right _ hx
theorem opB_stop {c : CuI} {lvl : Nat} {st : Nat × Nat} {x : Str} (h : x = "end" ∨ x = "else") : x ∉ opensB c lvl st := fun m => by
  have all : x ∈ (["show", "pay", "take", "if", "when", "set", "draw", "first", "second"] : List Str) := by
    rcases List.mem_append.mp m with m | m
    · rcases List.mem_append.mp m with m | m
      · simp only [List.mem_cons, List.not_mem_nil, or_false] at m ⊢
        rcases m with m | m | m <;> simp [m]
      · split at m
        · rcases List.mem_append.mp m with m | m
          · rw [List.mem_singleton.mp m]; simp
          · split at m
            · rw [List.mem_singleton.mp m]; simp
            · cases m
        · cases m
    · split at m
      · rcases List.mem_append.mp m with m | m
        · rw [List.mem_singleton.mp m]; simp
        · split at m
          · simp only [List.mem_cons, List.not_mem_nil, or_false] at m ⊢
            rcases m with m | m | m <;> simp [m]
          · cases m
      · cases m
  revert all
  rcases h with rfl | rfl <;> decide +kernel
theorem expr_back {c : CuI} (hv : ∀ x ∈ c.vars, Nm x) (se : c.se = false) (mk : Ex → St) {e : Ex} {i : Nat} {st : Nat × Nat} (g : EGd c.vars c.ops e) (sub : SubAt c.ws i e.words) : exprM c mk i st = .ok (mk e) (i + e.words.length) st := by
  unfold exprM
  rw [read_e hv g.1 (by rw [se]; exact g.2.2) g.2.1 sub]
theorem stmt_back {c : CuI} {g : Nat → Nat × Nat → BkR} {lvl : Nat} (hv : ∀ x ∈ c.vars, Nm x) (se : c.se = false) (hg : ∀ l, lvl = l + 1 → RB c l g) {s : St} {i : Nat} {a b : Nat × Nat} (G : s.G c.vars c.ops a b) (hl : s.lv ≤ lvl) (sub : SubAt c.ws i s.words) :
    wd0 s ∈ opensB c lvl a ∧ c.ws[i]? = some (wd0 s) ∧ stmtM c g (wd0 s) (i + 1) a = .ok s (i + s.words.length) b := by
  have e0 : c.ws[i]? = some (wd0 s) := by
    obtain ⟨r, e⟩ := words_hd s
    rw [e] at sub
    exact sub.head
  obtain ⟨k1, k2, k3, k4, k5, k6, k7, k8, k9, k10, k11, k12, k13, k14, k15, k16, k17, k18, k19, k20⟩ : ("when" : Str) ≠ "if" ∧ ("show" : Str) ≠ "if" ∧ ("show" : Str) ≠ "when" ∧ ("set" : Str) ≠ "if" ∧ ("set" : Str) ≠ "when" ∧ ("set" : Str) ≠ "show" ∧ ("draw" : Str) ≠ "if" ∧ ("draw" : Str) ≠ "when" ∧ ("draw" : Str) ≠ "show" ∧ ("draw" : Str) ≠ "set" ∧ ("pay" : Str) ≠ "if" ∧ ("pay" : Str) ≠ "when" ∧ ("pay" : Str) ≠ "show" ∧ ("pay" : Str) ≠ "set" ∧ ("pay" : Str) ∉ (["draw", "first", "second"] : List Str) ∧
    ("take" : Str) ≠ "if" ∧ ("take" : Str) ≠ "when" ∧ ("take" : Str) ≠ "show" ∧ ("take" : Str) ≠ "set" ∧ ("take" : Str) ∉ (["draw", "first", "second"] : List Str) := by decide +kernel
  refine ⟨?_, e0, ?_⟩
  · cases s with
    | set x e => exact opB_set G.1
    | ite e t f => exact opB_if (by have : max (lvL t) (lvL f) + 1 ≤ lvl := hl; omega)
    | whn o t f => exact opB_when (by have : max (lvL t) (lvL f) + 1 ≤ lvl := hl; omega) G.1
    | draw x n => exact opB_draw G.1 G.2.2.1 List.mem_cons_self
    | move p x n k => exact opB_draw G.2.1 G.2.2.2.2.1 (seat_facts p G.1).2.2.1
    | «show» p e => exact opB_base List.mem_cons_self
    | pay s e =>
      refine opB_base ?_
      show s ∈ (["show", "pay", "take"] : List Str)
      rcases G.1 with rfl | rfl <;> decide +kernel
  · unfold stmtM
    cases s with
    | set x e =>
      obtain ⟨m, ge, rfl⟩ := G
      have s1 := SubAt.tail sub
      show (if ("set" : Str) = "if" then _ else if ("set" : Str) = "when" then _ else if ("set" : Str) = "show" then _ else if ("set" : Str) = "set" then (match nameM c.ws c.vars (i + 1) with
        | none => StR.bad (i + 1)
        | some y => exprM c (.set y) (i + 1 + 1) b) else _) = _
      rw [if_neg k4, if_neg k5, if_neg k6, if_pos rfl, nameM_is s1.head m]
      show exprM c (.set x) (i + 1 + 1) b = _
      rw [expr_back hv se (.set x) ge s1.tail]
      show StR.ok _ _ _ = StR.ok _ (i + (e.words.length + 1 + 1)) _
      rw [show i + (e.words.length + 1 + 1) = i + 1 + 1 + e.words.length by omega]
    | ite e t f =>
      obtain ⟨ge, m, gt, gf⟩ := G
      have hl' : max (lvL t) (lvL f) + 1 ≤ lvl := hl
      obtain ⟨l, rfl⟩ : ∃ l, lvl = l + 1 := ⟨lvl - 1, by omega⟩
      have s1 : SubAt c.ws (i + 1) (e.words ++ branchW t f) := SubAt.tail sub
      show (if ("if" : Str) = "if" then (match readM c 12 (i + 1) with
        | .bad j => StR.bad j
        | .ok e j => branchM c g (.ite e) j a) else _) = _
      rw [if_pos rfl, read_e hv ge.1 (by rw [se]; exact ge.2.2) ge.2.1 s1.left]
      show branchM c g (.ite e) (i + 1 + e.words.length) a = _
      rw [branch_back (hg l rfl) (.ite e) gt gf (by omega) (by omega) s1.right]
      show StR.ok _ _ _ = StR.ok _ (i + ((e.words ++ branchW t f).length + 1)) _
      rw [List.length_append, show i + (e.words.length + (branchW t f).length + 1) = i + 1 + e.words.length + (branchW t f).length by omega]
    | whn o t f =>
      obtain ⟨mo, m, gt, gf⟩ := G
      have hl' : max (lvL t) (lvL f) + 1 ≤ lvl := hl
      obtain ⟨l, rfl⟩ : ∃ l, lvl = l + 1 := ⟨lvl - 1, by omega⟩
      have s1 : SubAt c.ws (i + 1) (o :: branchW t f) := SubAt.tail sub
      show (if ("when" : Str) = "if" then _ else if ("when" : Str) = "when" then (match nameM c.ws c.ops (i + 1) with
        | none => StR.bad (i + 1)
        | some o => branchM c g (.whn o) (i + 1 + 1) a) else _) = _
      rw [if_neg k1, if_pos rfl, nameM_is s1.head mo]
      show branchM c g (.whn o) (i + 1 + 1) a = _
      rw [branch_back (hg l rfl) (.whn o) gt gf (by omega) (by omega) s1.tail]
      show StR.ok _ _ _ = StR.ok _ (i + ((branchW t f).length + 1 + 1)) _
      rw [show i + ((branchW t f).length + 1 + 1) = i + 1 + 1 + (branchW t f).length by omega]
    | draw x n =>
      obtain ⟨m, ⟨n1, n2⟩, h24, rfl⟩ := G
      obtain ⟨k, rfl⟩ := Int.eq_ofNat_of_zero_le (show 0 ≤ n by omega)
      have s1 := SubAt.tail sub
      show (if ("draw" : Str) = "if" then _ else if ("draw" : Str) = "when" then _ else if ("draw" : Str) = "show" then _ else if ("draw" : Str) = "set" then _ else if ("draw" : Str) ∈ (["draw", "first", "second"] : List Str) then choiceM c "draw" (i + 1) a else _) = _
      rw [if_neg k7, if_neg k8, if_neg k9, if_neg k10, if_pos List.mem_cons_self]
      unfold choiceM
      rw [nameM_is s1.head m]
      show (if ("draw" : Str) = "draw" then (match numM c.ws 1 64 (i + 1 + 1) with
        | none => StR.bad (i + 1 + 1)
        | some n => .ok (.draw x n) (i + 1 + 2) (a.1 + 1, a.2)) else _) = _
      rw [if_pos rfl, numM_is (n := k) s1.tail.head (by omega) (by omega)]
      rfl
    | move p x n k =>
      obtain ⟨hp, m, ⟨n1, n2⟩, rfl, h24, rfl⟩ := G
      obtain ⟨j, rfl⟩ := Int.eq_ofNat_of_zero_le (show 0 ≤ n by omega)
      obtain ⟨f1, f2, f3, f4, f5, f6, f7⟩ := seat_facts p hp
      have s1 := SubAt.tail sub
      show (if seatS p = "if" then _ else if seatS p = "when" then _ else if seatS p = "show" then _ else if seatS p = "set" then _ else if seatS p ∈ (["draw", "first", "second"] : List Str) then choiceM c (seatS p) (i + 1) a else _) = _
      rw [if_neg f4, if_neg f5, if_neg f6, if_neg f7, if_pos f3]
      unfold choiceM
      rw [nameM_is s1.head m]
      show (if seatS p = "draw" then _ else (match numM c.ws 1 8 (i + 1 + 1) with
        | none => StR.bad (i + 1 + 1)
        | some n => .ok (.move (seatN (seatS p)) x n a.2) (i + 1 + 2) (a.1, a.2 + 1))) = _
      rw [if_neg f2, numM_is (n := j) s1.tail.head (by omega) (by omega), f1]
      rfl
    | «show» p e =>
      obtain ⟨hp, ge, rfl⟩ := G
      obtain ⟨f1, f2⟩ := seat_in hp
      have s1 := SubAt.tail sub
      show (if ("show" : Str) = "if" then _ else if ("show" : Str) = "when" then _ else if ("show" : Str) = "show" then (match nameM c.ws seatL (i + 1) with
        | none => StR.bad (i + 1)
        | some s => exprM c (.show (seatN s)) (i + 1 + 1) b) else _) = _
      rw [if_neg k2, if_neg k3, if_pos rfl, nameM_is s1.head f1]
      show exprM c (.show (seatN (seatS p))) (i + 1 + 1) b = _
      rw [f2, expr_back hv se (.show p) ge s1.tail]
      show StR.ok _ _ _ = StR.ok _ (i + (e.words.length + 1 + 1)) _
      rw [show i + (e.words.length + 1 + 1) = i + 1 + 1 + e.words.length by omega]
    | pay s e =>
      obtain ⟨hs, ge, rfl⟩ := G
      have s1 := SubAt.tail sub
      show (if s = "if" then _ else if s = "when" then _ else if s = "show" then _ else if s = "set" then _ else if s ∈ (["draw", "first", "second"] : List Str) then _ else exprM c (.pay s) (i + 1) b) = _
      have z : s ≠ "if" ∧ s ≠ "when" ∧ s ≠ "show" ∧ s ≠ "set" ∧ s ∉ (["draw", "first", "second"] : List Str) := by
        rcases hs with rfl | rfl
        · exact ⟨k11, k12, k13, k14, k15⟩
        · exact ⟨k16, k17, k18, k19, k20⟩
      rw [if_neg z.1, if_neg z.2.1, if_neg z.2.2.1, if_neg z.2.2.2.1, if_neg z.2.2.2.2, expr_back hv se (.pay s) ge s1]
      show StR.ok _ _ _ = StR.ok _ (i + (e.words.length + 1)) _
      rw [show i + (e.words.length + 1) = i + 1 + e.words.length by omega]
theorem loop_back {c : CuI} {g : Nat → Nat × Nat → BkR} {lvl : Nat} (hv : ∀ x ∈ c.vars, Nm x) (se : c.se = false) (hg : ∀ l, lvl = l + 1 → RB c l g) : ∀ (ss : List St) (n i : Nat) (a b : Nat × Nat), GL c.vars c.ops ss a b → lvL ss ≤ lvl → SubAt c.ws i (blockW ss) → Stop c.ws (i + (blockW ss).length) → ss.length ≤ n →
    loopM (headM c lvl g) n i a = .ok ss (i + (blockW ss).length) b
  | [], 0, i, a, b, G, _, _, _, _ => by
    have e : b = a := G
    rw [e]
    rfl
  | [], n + 1, i, a, b, G, _, _, st, _ => by
    have e : b = a := G
    rw [e]
    have h : headM c lvl g i a = none := by
      unfold headM
      cases w : c.ws[i]? with
      | none => rfl
      | some x =>
        show (if x ∈ opensB c lvl a then _ else none) = _
        rw [if_neg (opB_stop (st x w))]
    unfold loopM
    rw [h]
    rfl
  | s :: r, 0, i, a, b, _, _, _, _, h => by
    rw [List.length_cons] at h
    omega
  | s :: r, n + 1, i, a, b, ⟨m, G1, G2⟩, hl, sub, st, h => by
    have hl' : max s.lv (lvL r) ≤ lvl := hl
    have bl : (blockW (s :: r)).length = s.words.length + (blockW r).length := by
      show (s.words ++ blockW r).length = _
      rw [List.length_append]
    have sub' : SubAt c.ws i (s.words ++ blockW r) := sub
    obtain ⟨h1, h2, h3⟩ := stmt_back hv se hg G1 (by omega) sub'.left
    have hh : headM c lvl g i a = some (.ok s (i + s.words.length) m) := by
      unfold headM
      rw [h2]
      show (if wd0 s ∈ opensB c lvl a then some (stmtM c g (wd0 s) (i + 1) a) else none) = _
      rw [if_pos h1, h3]
    unfold loopM
    rw [hh]
    show (match loopM (headM c lvl g) n (i + s.words.length) m with
      | .bad j' => BkR.bad j'
      | .ok ss j' st'' => .ok (s :: ss) j' st'') = _
    rw [bl, ← Nat.add_assoc] at st
    rw [loop_back hv se hg r n _ m b G2 (by omega) sub'.right st (by rw [List.length_cons] at h; omega), bl, ← Nat.add_assoc]
theorem len_words : ∀ ss : List St, ss.length ≤ (blockW ss).length
  | [] => Nat.le_refl _
  | s :: r => by
    obtain ⟨u, e⟩ := words_hd s
    have := len_words r
    show r.length + 1 ≤ (s.words ++ blockW r).length
    rw [List.length_append, e, List.length_cons]
    omega
theorem block_back {c : CuI} (hv : ∀ x ∈ c.vars, Nm x) (se : c.se = false) : ∀ l, RB c l (blockM c l)
  | 0 => fun ss i a b G hl sub st => by
    unfold blockM
    refine loop_back hv se (fun l z => by omega) ss _ i a b G hl sub st ?_
    have := len_words ss
    by_cases z : blockW ss = []
    · rw [z] at this
      exact Nat.le_trans this (Nat.zero_le _)
    · have := sub.len z
      omega
  | l + 1 => fun ss i a b G hl sub st => by
    unfold blockM
    refine loop_back hv se (fun k z => by cases z; exact block_back hv se l) ss _ i a b G hl sub st ?_
    have := len_words ss
    by_cases z : blockW ss = []
    · rw [z] at this
      exact Nat.le_trans this (Nat.zero_le _)
    · have := sub.len z
      omega
/-! ### options, variables, rounds -/
def onS (b : Bool) : Str := if b = true then "on" else "off"
def optW (q : Str × Bool) : List Str := ["option", q.1, onS q.2]
def varW (q : Str × Int) : List Str := ["var", q.1, numS q.2]
def rndW (q : Str × List St) : List Str := "round" :: q.1 :: (blockW q.2 ++ (["end"] : List Str))
def fl {α : Type} (f : α → List Str) (xs : List α) : List Str := (xs.map f).flatten
theorem fl_cons {α : Type} (f : α → List Str) (x : α) (xs : List α) : fl f (x :: xs) = f x ++ fl f xs := rfl
theorem fl_app {α : Type} (f : α → List Str) (xs ys : List α) : fl f (xs ++ ys) = fl f xs ++ fl f ys := by
  unfold fl
  rw [List.map_append, List.flatten_append]
theorem nm_key {x : Str} (h : Nm x) : NameP x := by
  obtain ⟨⟨d, r, e, l, hr, hl⟩, k⟩ := h
  have len : x.length = r.length + 1 := by
    show x.cps.toList.length = _
    rw [e, List.length_cons]
  refine ⟨by omega, by omega, ?_, fun k c hc => ?_⟩
  · have kv : keyV = kwL.map V.str := by decide +kernel
    rw [kv, inV_strs, decide_eq_false k]
  · rw [e] at hc
    cases k with
    | zero => cases hc; exact .inl l
    | succ k =>
      rw [List.getElem?_cons_succ] at hc
      rcases hr c (List.mem_of_getElem? hc) with z | z
      · exact .inl z
      · exact .inr ⟨Nat.succ_pos _, z⟩
/-- names that are new, one after the other -/
def NewL (acc ns : List Str) : Prop := (∀ x ∈ ns, Nm x) ∧ ns.Nodup ∧ ∀ x ∈ ns, x ∉ acc
theorem NewL.hd {acc : List Str} {x : Str} {ns : List Str} (h : NewL acc (x :: ns)) : Nm x ∧ x ∉ acc := ⟨h.1 x List.mem_cons_self, h.2.2 x List.mem_cons_self⟩
theorem NewL.tl {acc : List Str} {x : Str} {ns : List Str} (h : NewL acc (x :: ns)) : NewL (acc ++ [x]) ns := by
  obtain ⟨h1, h2, h3⟩ := h
  rw [List.nodup_cons] at h2
  refine ⟨fun y m => h1 y (List.mem_cons_of_mem _ m), h2.2, fun y m z => ?_⟩
  rcases List.mem_append.mp z with z | z
  · exact h3 y (List.mem_cons_of_mem _ m) z
  · rw [List.mem_singleton.mp z] at m
    exact h2.1 m
theorem fresh_is {ws acc : List Str} {i : Nat} {x : Str} (e : ws[i]? = some x) (h : Nm x ∧ x ∉ acc) : freshM ws acc i = some x := freshM_some e (nm_key h.1) h.2
theorem on_back (b : Bool) : onS b ∈ (["on", "off"] : List Str) ∧ decide (onS b = "on") = b := by
  cases b <;> decide +kernel
theorem opts_back {ws : List Str} : ∀ (os : List (Str × Bool)) (f : Nat) (acc : List (Str × Bool)) (i : Nat), SubAt ws i (fl optW os) → NewL (acc.map (·.1)) (os.map (·.1)) → acc.length + os.length ≤ 6 → os.length < f → ws[i + (fl optW os).length]? ≠ some ("option" : Str) →
    optsM ws f acc i = .ok (acc ++ os) (i + (fl optW os).length)
  | [], 0, acc, i, _, _, _, h, _ => absurd h (Nat.lt_irrefl 0)
  | [], f + 1, acc, i, _, _, _, _, no => by
    unfold optsM
    rw [if_neg fun z => no z.1, List.append_nil]
    rfl
  | q :: os, 0, acc, i, _, _, _, h, _ => absurd h (Nat.not_lt_zero _)
  | q :: os, f + 1, acc, i, sub, nl, l6, h, no => by
    rw [List.length_cons] at h l6
    have s0 : SubAt ws i ("option" :: q.1 :: onS q.2 :: fl optW os) := sub
    have e0 := s0.head
    have e1 := s0.tail.head
    have e2 := s0.tail.tail.head
    have s3 := s0.tail.tail.tail
    have ll : (fl optW (q :: os)).length = (fl optW os).length + 3 := rfl
    obtain ⟨o1, o2⟩ := on_back q.2
    unfold optsM
    rw [if_pos ⟨e0, by omega⟩, fresh_is e1 nl.hd]
    show (match nameM ws ["on", "off"] (i + 1 + 1) with
      | none => HdR.bad (i + 2)
      | some y => optsM ws f (acc ++ [(q.1, decide (y = "on"))]) (i + 3)) = _
    rw [nameM_is e2 o1]
    show optsM ws f (acc ++ [(q.1, decide (onS q.2 = "on"))]) (i + 3) = _
    have ei : i + (fl optW (q :: os)).length = i + 3 + (fl optW os).length := by omega
    rw [ei] at no ⊢
    rw [o2, opts_back os f (acc ++ [q]) (i + 3) s3 (by rw [List.map_append]; exact nl.tl) (by rw [List.length_append]; show acc.length + 1 + os.length ≤ 6; omega) (by omega) no, List.append_assoc]
    rfl
theorem vars_back {ws : List Str} : ∀ (os : List (Str × Int)) (f : Nat) (acc : List (Str × Int)) (i : Nat), SubAt ws i (fl varW os) → NewL (acc.map (·.1)) (os.map (·.1)) → (∀ q ∈ os, 1 ≤ q.2 ∧ q.2 ≤ 65535) → acc.length + os.length ≤ 12 → os.length < f → ws[i + (fl varW os).length]? ≠ some ("var" : Str) →
    varsM ws f acc i = .ok (acc ++ os) (i + (fl varW os).length)
  | [], 0, acc, i, _, _, _, _, h, _ => absurd h (Nat.lt_irrefl 0)
  | [], f + 1, acc, i, _, _, _, _, _, no => by
    unfold varsM
    rw [if_neg fun z => no z.1, List.append_nil]
    rfl
  | q :: os, 0, acc, i, _, _, _, _, h, _ => absurd h (Nat.not_lt_zero _)
  | q :: os, f + 1, acc, i, sub, nl, hq, l6, h, no => by
    rw [List.length_cons] at h l6
    obtain ⟨x, n⟩ := q
    have hn := hq (x, n) List.mem_cons_self
    obtain ⟨k, rfl⟩ := Int.eq_ofNat_of_zero_le (show 0 ≤ n by have := hn.1; omega)
    have s0 : SubAt ws i ("var" :: x :: numS ((k : Nat) : Int) :: fl varW os) := sub
    have e0 := s0.head
    have e1 := s0.tail.head
    have e2 := s0.tail.tail.head
    have s3 := s0.tail.tail.tail
    have ll : (fl varW ((x, ((k : Nat) : Int)) :: os)).length = (fl varW os).length + 3 := rfl
    have hn1 : 1 ≤ ((k : Nat) : Int) := hn.1
    have hn2 : ((k : Nat) : Int) ≤ 65535 := hn.2
    unfold varsM
    rw [if_pos ⟨e0, by omega⟩, fresh_is e1 nl.hd]
    show (match numM ws 1 65535 (i + 1 + 1) with
      | none => HdR.bad (i + 2)
      | some y => varsM ws f (acc ++ [(x, ((y : Nat) : Int))]) (i + 3)) = _
    rw [numM_is e2 (by omega) (by omega)]
    show varsM ws f (acc ++ [(x, ((k : Nat) : Int))]) (i + 3) = _
    have ei : i + (fl varW ((x, ((k : Nat) : Int)) :: os)).length = i + 3 + (fl varW os).length := by omega
    rw [ei] at no ⊢
    rw [vars_back os f (acc ++ [(x, ((k : Nat) : Int))]) (i + 3) s3 (by rw [List.map_append]; exact nl.tl) (fun z m => hq z (List.mem_cons_of_mem _ m)) (by rw [List.length_append]; show acc.length + 1 + os.length ≤ 12; omega) (by omega) no, List.append_assoc]
    rfl
/-- rounds, from so many draws and moves -/
def GR (vs os : List Str) : List (Str × List St) → Nat × Nat → Prop
  | [], _ => True
  | q :: r, a => ∃ m, GL vs os q.2 a m ∧ lvL q.2 ≤ 8 ∧ GR vs os r m
theorem rnds_back {c : CuI} (hv : ∀ x ∈ c.vars, Nm x) (se : c.se = false) : ∀ (rs : List (Str × List St)) (f : Nat) (acc : List (Str × List St)) (i : Nat) (a : Nat × Nat), SubAt c.ws i (fl rndW rs) → NewL (acc.map (·.1)) (rs.map (·.1)) → GR c.vars c.ops rs a → acc.length + rs.length ≤ 8 → rs.length < f → c.ws[i + (fl rndW rs).length]? ≠ some ("round" : Str) →
    rndsM c f acc i a = .ok (acc ++ rs) (i + (fl rndW rs).length)
  | [], 0, acc, i, a, _, _, _, _, h, _ => absurd h (Nat.lt_irrefl 0)
  | [], f + 1, acc, i, a, _, _, _, _, _, no => by
    unfold rndsM
    rw [if_neg fun z => no z.1, List.append_nil]
    rfl
  | q :: os, 0, acc, i, a, _, _, _, _, h, _ => absurd h (Nat.not_lt_zero _)
  | q :: os, f + 1, acc, i, a, sub, nl, ⟨m, g1, g2, g3⟩, l6, h, no => by
    rw [List.length_cons] at h l6
    have s0 : SubAt c.ws i ("round" :: q.1 :: ((blockW q.2 ++ (["end"] : List Str)) ++ fl rndW os)) := sub
    have e0 := s0.head
    have e1 := s0.tail.head
    have s2 := s0.tail.tail
    have sb := s2.left.left
    have e3 : c.ws[i + 1 + 1 + (blockW q.2).length]? = some ("end" : Str) := s2.left.right.head
    have s3 := s2.right
    have ll : (fl rndW (q :: os)).length = (blockW q.2 ++ (["end"] : List Str)).length + (fl rndW os).length + 2 := by
      show ((blockW q.2 ++ (["end"] : List Str)) ++ fl rndW os).length + 1 + 1 = _
      rw [List.length_append]
    rw [List.length_append] at ll s3
    have lb1 : (["end"] : List Str).length = 1 := rfl
    unfold rndsM
    rw [if_pos ⟨e0, by omega⟩, fresh_is e1 nl.hd]
    show (match blockM c 8 (i + 1 + 1) a with
        | .bad j => HdR.bad j
        | .ok ss j st' => if c.ws[j]? = some ("end" : Str) then rndsM c f (acc ++ [(q.1, ss)]) (j + 1) st' else .bad j) = _
    rw [block_back hv se 8 q.2 (i + 1 + 1) a m g1 g2 sb fun x z => by rw [e3] at z; exact .inl (Option.some.inj z).symm]
    show (if c.ws[i + 1 + 1 + (blockW q.2).length]? = some ("end" : Str) then rndsM c f (acc ++ [(q.1, q.2)]) (i + 1 + 1 + (blockW q.2).length + 1) m else _) = _
    rw [if_pos e3]
    have ei : i + (fl rndW (q :: os)).length = i + 1 + 1 + (blockW q.2).length + 1 + (fl rndW os).length := by omega
    rw [ei] at no ⊢
    rw [rnds_back hv se os f (acc ++ [q]) (i + 1 + 1 + (blockW q.2).length + 1) m s3 (by rw [List.map_append]; exact nl.tl) g3 (by rw [List.length_append]; show acc.length + 1 + os.length ≤ 8; omega) (by omega) no, List.append_assoc]
    rfl
/-- the data of a game -/
structure GOk (os : List (Str × Bool)) (us : List (Str × Int)) (rs : List (Str × List St)) : Prop where
  o : NewL [] (os.map (·.1))
  o6 : os.length ≤ 6
  u : NewL [] (us.map (·.1))
  u12 : us.length ≤ 12
  un : ∀ q ∈ us, 1 ≤ q.2 ∧ q.2 ≤ 65535
  r : NewL [] (rs.map (·.1))
  r8 : rs.length ≤ 8
  g : GR (us.map (·.1)) (os.map (·.1)) rs (0, 0)
def gameW (os : List (Str × Bool)) (us : List (Str × Int)) (rs : List (Str × List St)) : List Str := fl optW os ++ (fl varW us ++ fl rndW rs)
theorem fl_head {α : Type} {f : α → List Str} {w : Str} (hf : ∀ x, ∃ r, f x = w :: r) : ∀ (xs : List α) (k : List Str), (xs = [] ∧ fl f xs ++ k = k) ∨ ∃ r, fl f xs ++ k = w :: r
  | [], k => .inl ⟨rfl, rfl⟩
  | x :: xs, k => by
    obtain ⟨r, e⟩ := hf x
    refine .inr ⟨r ++ fl f xs ++ k, ?_⟩
    rw [fl_cons, e]
    rfl
theorem drop_head {ws : List Str} {a b : List Str} (e : ws = a ++ b) : ws[a.length]? = b[0]? := by
  rw [e, List.getElem?_append_right (Nat.le_refl _), Nat.sub_self]
/-- the words of a game are read as the game -/
theorem game_back {K : PySem.W.Frag} {C B : Addr} {H : Hp} {os : List (Str × Bool)} {us : List (Str × Int)} {rs : List (Str × List St)} {Q : VK} {E : XK} (h : GOk os us rs) (q : ∀ g H', Same H H' → H g = none → GameS K C H' g os us rs → Q (.ref g) H') : GmK K C B H (gameW os us rs) Q E := by
  have s0 : SubAt (gameW os us rs) 0 (gameW os us rs) := fun j x e => by rw [Nat.zero_add]; exact e
  have hu := fl_head (f := varW) (w := "var") (fun x => ⟨_, rfl⟩) us (fl rndW rs)
  have hr := fl_head (f := rndW) (w := "round") (fun x => ⟨_, rfl⟩) rs []
  rw [List.append_nil] at hr
  obtain ⟨n1, n2, n3⟩ : ("var" : Str) ≠ "option" ∧ ("round" : Str) ≠ "option" ∧ ("round" : Str) ≠ "var" := by decide +kernel
  have r0 : ∀ w : Str, w ≠ "round" → (fl rndW rs)[0]? ≠ some w := fun w nw z => by
    rcases hr with ⟨_, e⟩ | ⟨r, e⟩
    · rw [e] at z; cases z
    · rw [e] at z
      exact nw (Option.some.inj z).symm
  have no1 : (gameW os us rs)[0 + (fl optW os).length]? ≠ some ("option" : Str) := by
    rw [Nat.zero_add, drop_head (ws := gameW os us rs) (a := fl optW os) rfl]
    rcases hu with ⟨_, e⟩ | ⟨r, e⟩
    · rw [e]
      exact r0 _ n2.symm
    · rw [e]
      exact fun z => n1 (Option.some.inj z)
  have e1 : gameW os us rs = (fl optW os ++ fl varW us) ++ fl rndW rs := (List.append_assoc _ _ _).symm
  have no2 : (gameW os us rs)[0 + (fl optW os).length + (fl varW us).length]? ≠ some ("var" : Str) := by
    rw [Nat.zero_add, ← List.length_append, drop_head e1]
    exact r0 _ n3.symm
  have e2 : gameW os us rs = gameW os us rs ++ [] := (List.append_nil _).symm
  have end_ : (gameW os us rs)[0 + (fl optW os).length + (fl varW us).length + (fl rndW rs).length]? = none := by
    rw [Nat.zero_add, ← List.length_append, ← List.length_append, ← e1]
    exact List.getElem?_eq_none (Nat.le_refl _)
  have o1 : optsM (gameW os us rs) 7 [] 0 = .ok os (0 + (fl optW os).length) := opts_back os 7 [] 0 s0.left h.o (by have := h.o6; show 0 + os.length ≤ 6; omega) (by have := h.o6; omega) no1
  have o2 : varsM (gameW os us rs) 13 [] (0 + (fl optW os).length) = .ok us (0 + (fl optW os).length + (fl varW us).length) := vars_back us 13 [] _ s0.right.left h.u h.un (by have := h.u12; show 0 + us.length ≤ 12; omega) (by have := h.u12; omega) no2
  unfold GmK
  rw [o1]
  show (match varsM (gameW os us rs) 13 [] (0 + (fl optW os).length) with
    | .bad j => _
    | .ok us j => _)
  rw [o2]
  intro c hc
  obtain ⟨c1, c2, c3, c4⟩ := hc
  have o3 : rndsM c 9 [] (0 + (fl optW os).length + (fl varW us).length) (0, 0) = .ok rs (0 + (fl optW os).length + (fl varW us).length + (fl rndW rs).length) := by
    refine rnds_back (by rw [c3]; exact h.u.1) c4 rs 9 [] _ (0, 0) (by rw [c1]; exact s0.right.right) h.r (by rw [c2, c3]; exact h.g) (by have := h.r8; show 0 + rs.length ≤ 8; omega) (by have := h.r8; omega) ?_
    rw [c1, end_]
    exact fun z => by cases z
  rw [o3]
  exact ⟨fun _ => q, fun z => absurd end_ z⟩


/-! ### the text of a game -/
def WdC (x : Str) : Prop := (∀ c ∈ x.cps.toList, c < 128 ∧ c ≠ 32) ∧ x.length ≤ 12
def wdB (x : Str) : Bool := x.cps.toList.all (fun c => decide (c < 128 ∧ c ≠ 32)) && decide (x.length ≤ 12)
theorem wdC_of {ss : List Str} (h : ss.all wdB = true) {x : Str} (m : x ∈ ss) : WdC x := by
  have := List.all_eq_true.mp h x m
  unfold wdB at this
  rw [Bool.and_eq_true] at this
  exact ⟨fun c mc => of_decide_eq_true (List.all_eq_true.mp this.1 c mc), of_decide_eq_true this.2⟩
theorem Nm.wd {x : Str} (h : Nm x) : WdC x := by
  refine ⟨fun c m => ⟨h.1.lt c m, fun z => ?_⟩, h.1.len⟩
  obtain ⟨⟨d, r, e, l, hr, _⟩, _⟩ := h
  rw [e] at m
  rcases List.mem_cons.mp m with rfl | m
  · have := l.1
    omega
  · rcases hr c m with z2 | z2
    · have := z2.1
      omega
    · omega
theorem num_wd {n : Int} (h0 : 0 ≤ n) (h1 : n < 65536) : WdC (numS n) := by
  obtain ⟨k, rfl⟩ := Int.eq_ofNat_of_zero_le h0
  have e : (numS ((k : Nat) : Int)).cps.toList = TL.numL k := TL.tl_num k
  refine ⟨fun c m => ?_, ?_⟩
  · rw [e] at m
    have := TL.numL_digits k c m
    omega
  · have := (num_asc k (by omega)).2
    exact Nat.le_trans this (by decide)
def kwsA : List Str := (["option", "on", "off", "var", "round", "end", "set", "if", "else", "when", "draw", "first", "second", "show", "both", "pay", "take", "pick", "number", "variable"] : List Str) ++ opL
theorem kwsA_ok : kwsA.all wdB = true := by decide +kernel
theorem kw_wd {x : Str} (m : x ∈ kwsA) : WdC x := wdC_of kwsA_ok m
theorem e_wd {vs os : List Str} (hv : ∀ x ∈ vs, Nm x) (ho : ∀ x ∈ os, Nm x) : ∀ e : Ex, e.Wf vs os → e.Se false → ∀ w ∈ e.words, WdC w
  | .num n, h, _, w, m => by
    rw [List.mem_singleton.mp m]
    exact num_wd h.1 h.2
  | .var x, h, _, w, m => by
    rw [List.mem_singleton.mp m]
    exact (hv x h).wd
  | .long, _, h, _, _ => Bool.noConfusion (show false = true from h)
  | .view e, _, h, _, _ => Bool.noConfusion (show false = true from h.1)
  | .pick x a b, h, g, w, m => by
    rcases List.mem_cons.mp m with rfl | m
    · exact kw_wd (by decide +kernel)
    rcases List.mem_cons.mp m with rfl | m
    · exact (ho _ h.1).wd
    rcases List.mem_append.mp m with m | m
    · exact e_wd hv ho a h.2.1 g.1 w m
    · exact e_wd hv ho b h.2.2 g.2 w m
  | .op s a b, h, g, w, m => by
    rcases List.mem_cons.mp m with rfl | m
    · exact kw_wd (List.mem_append_right _ h.1)
    rcases List.mem_append.mp m with m | m
    · exact e_wd hv ho a h.2.1 g.1 w m
    · exact e_wd hv ho b h.2.2 g.2 w m
theorem seat_wd (p : Int) : WdC (seatS p) := by
  have : seatS p ∈ kwsA := by
    unfold seatS
    match p.toNat with
    | 0 => decide +kernel
    | 1 => decide +kernel
    | 2 => decide +kernel
    | n + 3 => exact (show ("both" : Str) ∈ kwsA by decide +kernel)
  exact kw_wd this
theorem br_wd {t f : List St} (h1 : ∀ w ∈ blockW t, WdC w) (h2 : ∀ w ∈ blockW f, WdC w) : ∀ w ∈ branchW t f, WdC w := fun w m => by
  unfold branchW at m
  rcases List.mem_append.mp m with m | m
  · exact h1 w m
  rcases List.mem_append.mp m with m | m
  · split at m
    · cases m
    · rcases List.mem_cons.mp m with rfl | m
      · exact kw_wd (by decide +kernel)
      · exact h2 w m
  · rw [List.mem_singleton.mp m]
    exact kw_wd (by decide +kernel)
mutual
theorem st_wd {vs os : List Str} (hv : ∀ x ∈ vs, Nm x) (ho : ∀ x ∈ os, Nm x) : ∀ (s : St) (a b : Nat × Nat), s.G vs os a b → ∀ w ∈ s.words, WdC w
  | .set x e, _, _, h, w, m => by
    rcases List.mem_cons.mp m with rfl | m
    · exact kw_wd (by decide +kernel)
    rcases List.mem_cons.mp m with rfl | m
    · exact (hv _ h.1).wd
    · exact e_wd hv ho e h.2.1.1 h.2.1.2.2 w m
  | .ite e t f, _, _, ⟨h, k, h1, h2⟩, w, m => by
    rcases List.mem_cons.mp m with rfl | m
    · exact kw_wd (by decide +kernel)
    rcases List.mem_append.mp m with m | m
    · exact e_wd hv ho e h.1 h.2.2 w m
    · exact br_wd (bl_wd hv ho t _ _ h1) (bl_wd hv ho f _ _ h2) w m
  | .whn o t f, _, _, ⟨h, k, h1, h2⟩, w, m => by
    rcases List.mem_cons.mp m with rfl | m
    · exact kw_wd (by decide +kernel)
    rcases List.mem_cons.mp m with rfl | m
    · exact (ho _ h).wd
    · exact br_wd (bl_wd hv ho t _ _ h1) (bl_wd hv ho f _ _ h2) w m
  | .draw x n, _, _, h, w, m => by
    rcases List.mem_cons.mp m with rfl | m
    · exact kw_wd (by decide +kernel)
    rcases List.mem_cons.mp m with rfl | m
    · exact (hv _ h.1).wd
    · rw [List.mem_singleton.mp m]
      exact num_wd (by have := h.2.1; omega) (by have := h.2.1; omega)
  | .move p x n k, _, _, h, w, m => by
    rcases List.mem_cons.mp m with rfl | m
    · exact seat_wd p
    rcases List.mem_cons.mp m with rfl | m
    · exact (hv _ h.2.1).wd
    · rw [List.mem_singleton.mp m]
      exact num_wd (by have := h.2.2.1; omega) (by have := h.2.2.1; omega)
  | .show p e, _, _, h, w, m => by
    rcases List.mem_cons.mp m with rfl | m
    · exact kw_wd (by decide +kernel)
    rcases List.mem_cons.mp m with rfl | m
    · exact seat_wd p
    · exact e_wd hv ho e h.2.1.1 h.2.1.2.2 w m
  | .pay s e, _, _, h, w, m => by
    rcases List.mem_cons.mp m with rfl | m
    · rcases h.1 with z | z
      · rw [z]
        exact kw_wd (by decide +kernel)
      · rw [z]
        exact kw_wd (by decide +kernel)
    · exact e_wd hv ho e h.2.1.1 h.2.1.2.2 w m
theorem bl_wd {vs os : List Str} (hv : ∀ x ∈ vs, Nm x) (ho : ∀ x ∈ os, Nm x) : ∀ (ss : List St) (a b : Nat × Nat), GL vs os ss a b → ∀ w ∈ blockW ss, WdC w
  | [], _, _, _, _, m => by cases m
  | s :: r, _, _, ⟨k, h1, h2⟩, w, m => by
    rcases List.mem_append.mp m with m | m
    · exact st_wd hv ho s _ _ h1 w m
    · exact bl_wd hv ho r _ _ h2 w m
end
theorem mem_fl {α : Type} {f : α → List Str} {xs : List α} {w : Str} (h : w ∈ fl f xs) : ∃ x ∈ xs, w ∈ f x := by
  obtain ⟨l, ml, mw⟩ := List.mem_flatten.mp h
  obtain ⟨x, mx, rfl⟩ := List.mem_map.mp ml
  exact ⟨x, mx, mw⟩
theorem gr_mem {vs os : List Str} : ∀ {rs : List (Str × List St)} {q : Str × List St} {a : Nat × Nat}, GR vs os rs a → q ∈ rs → ∃ m m', GL vs os q.2 m m' ∧ lvL q.2 ≤ 8
  | _ :: _, _, _, ⟨m, h1, h2, h3⟩, e => by
    rcases List.mem_cons.mp e with rfl | e
    · exact ⟨_, _, h1, h2⟩
    · exact gr_mem h3 e
theorem game_wd {os : List (Str × Bool)} {us : List (Str × Int)} {rs : List (Str × List St)} (h : GOk os us rs) : ∀ w ∈ gameW os us rs, WdC w := fun w m => by
  rcases List.mem_append.mp m with m | m
  · obtain ⟨q, mq, m⟩ := mem_fl m
    rcases List.mem_cons.mp m with rfl | m
    · exact kw_wd (by decide +kernel)
    rcases List.mem_cons.mp m with rfl | m
    · exact (h.o.1 _ (List.mem_map.mpr ⟨q, mq, rfl⟩)).wd
    · rw [List.mem_singleton.mp m]
      unfold onS
      split
      · exact kw_wd (by decide +kernel)
      · exact kw_wd (by decide +kernel)
  rcases List.mem_append.mp m with m | m
  · obtain ⟨q, mq, m⟩ := mem_fl m
    rcases List.mem_cons.mp m with rfl | m
    · exact kw_wd (by decide +kernel)
    rcases List.mem_cons.mp m with rfl | m
    · exact (h.u.1 _ (List.mem_map.mpr ⟨q, mq, rfl⟩)).wd
    · rw [List.mem_singleton.mp m]
      have := h.un q mq
      exact num_wd (by omega) (by omega)
  · obtain ⟨q, mq, m⟩ := mem_fl m
    rcases List.mem_cons.mp m with rfl | m
    · exact kw_wd (by decide +kernel)
    rcases List.mem_cons.mp m with rfl | m
    · exact (h.r.1 _ (List.mem_map.mpr ⟨q, mq, rfl⟩)).wd
    rcases List.mem_append.mp m with m | m
    · obtain ⟨k, k', g, _⟩ := gr_mem h.g mq
      exact bl_wd h.u.1 h.o.1 _ _ _ g w m
    · rw [List.mem_singleton.mp m]
      exact kw_wd (by decide +kernel)
mutual
theorem st_wf {vs os : List Str} : ∀ (s : St) (a b : Nat × Nat), s.G vs os a b → s.Wf vs os ∧ s.Nb
  | .set x e, _, _, h => ⟨⟨h.1, h.2.1.1, by have := h.2.1.2.1; omega⟩, trivial⟩
  | .ite e t f, _, _, ⟨h, k, h1, h2⟩ => ⟨⟨⟨h.1, by have := h.2.1; omega⟩, (bl_wf t _ _ h1).1, (bl_wf f _ _ h2).1⟩, (bl_wf t _ _ h1).2, (bl_wf f _ _ h2).2⟩
  | .whn o t f, _, _, ⟨h, k, h1, h2⟩ => ⟨⟨h, (bl_wf t _ _ h1).1, (bl_wf f _ _ h2).1⟩, (bl_wf t _ _ h1).2, (bl_wf f _ _ h2).2⟩
  | .draw x n, _, _, h => ⟨h.1, by have := h.2.1; show 0 ≤ n ∧ n < 65536; omega⟩
  | .move p x n k, _, _, h => ⟨h.2.1, by have := h.1; show 0 ≤ p ∧ p < 3; omega, by have := h.2.2.1; omega⟩
  | .show p e, _, _, h => ⟨⟨h.2.1.1, by have := h.2.1.2.1; omega⟩, h.1⟩
  | .pay s e, _, _, h => ⟨⟨h.1, h.2.1.1, by have := h.2.1.2.1; omega⟩, trivial⟩
theorem bl_wf {vs os : List Str} : ∀ (ss : List St) (a b : Nat × Nat), GL vs os ss a b → WfL vs os ss ∧ NbL ss
  | [], _, _, _ => ⟨trivial, trivial⟩
  | s :: r, _, _, ⟨k, h1, h2⟩ => ⟨⟨(st_wf s _ _ h1).1, (bl_wf r _ _ h2).1⟩, (st_wf s _ _ h1).2, (bl_wf r _ _ h2).2⟩
end
/-! ### words put together -/
def tx (ws : List Str) : Str := Txt.join ⟨#[32]⟩ ws
theorem tx_cps (ws : List Str) : (tx ws).cps.toList = joinC (ws.map (·.cps.toList)) := by
  have : tx ws = Str.join ⟨#[32]⟩ ws := StrLaws.glued_eq_join _ _
  rw [this]
  exact join_cps ws
theorem joinC_app : ∀ (a b : List (List Nat)), a ≠ [] → b ≠ [] → joinC (a ++ b) = joinC a ++ 32 :: joinC b
  | [], _, h, _ => absurd rfl h
  | [x], [], _, h => absurd rfl h
  | [x], y :: r, _, _ => rfl
  | x :: y :: r, b, _, h => by
    have ih := joinC_app (y :: r) b (by simp) h
    show x ++ 32 :: joinC (y :: r ++ b) = (x ++ 32 :: joinC (y :: r)) ++ 32 :: joinC b
    rw [ih]
    simp
theorem joinC_flat : ∀ pss : List (List (List Nat)), (∀ ps ∈ pss, ps ≠ []) → joinC (pss.map joinC) = joinC pss.flatten
  | [], _ => rfl
  | [a], _ => by
    show joinC a = joinC (a ++ [])
    rw [List.append_nil]
  | a :: b :: r, h => by
    have ih := joinC_flat (b :: r) fun p m => h p (List.mem_cons_of_mem _ m)
    have nb := h b (List.mem_cons_of_mem _ List.mem_cons_self)
    show joinC a ++ 32 :: joinC ((b :: r).map joinC) = joinC (a ++ (b :: r).flatten)
    rw [ih, joinC_app a _ (h a List.mem_cons_self) (fun z => by
      rw [List.flatten_cons] at z
      exact nb (List.append_eq_nil_iff.mp z).1)]
theorem tx_flat (pss : List (List Str)) (h : ∀ ps ∈ pss, ps ≠ []) : tx (pss.map tx) = tx pss.flatten := by
  refine ext_toList ?_
  rw [tx_cps, tx_cps, List.map_map, List.map_flatten]
  have e1 : pss.map ((fun x : Str => x.cps.toList) ∘ tx) = (pss.map (List.map (fun x : Str => x.cps.toList))).map joinC := by
    rw [List.map_map]
    exact List.map_congr_left fun ws _ => tx_cps ws
  rw [e1]
  exact joinC_flat _ fun ps m => by
    obtain ⟨ws, mw, rfl⟩ := List.mem_map.mp m
    exact fun z => h ws mw (List.map_eq_nil_iff.mp z)
theorem joinC_le : ∀ ps : List (List Nat), (joinC ps).length ≤ (ps.map List.length).sum + ps.length
  | [] => by simp [joinC]
  | [a] => by simp [joinC]
  | a :: b :: r => by
    have ih := joinC_le (b :: r)
    show (a ++ 32 :: joinC (b :: r)).length ≤ ((a :: b :: r).map List.length).sum + (a :: b :: r).length
    rw [List.map_cons, List.sum_cons, List.length_cons, List.length_append]
    show a.length + ((joinC (b :: r)).length + 1) ≤ a.length + _ + (_ + 1)
    omega
theorem sum12 : ∀ ws : List Str, (∀ w ∈ ws, WdC w) → (ws.map (·.length)).sum ≤ 12 * ws.length
  | [], _ => by simp
  | w :: r, h => by
    have := sum12 r fun x m => h x (List.mem_cons_of_mem _ m)
    have := (h w List.mem_cons_self).2
    rw [List.map_cons, List.sum_cons, List.length_cons]
    omega
theorem tx_len (ws : List Str) : (tx ws).length ≤ (ws.map (·.length)).sum + ws.length := by
  have h := joinC_le (ws.map (·.cps.toList))
  rw [← tx_cps, List.length_map, List.map_map] at h
  exact h
theorem tx_len12 {ws : List Str} (h : ∀ w ∈ ws, WdC w) : (tx ws).length ≤ 13 * ws.length := by
  have := tx_len ws
  have := sum12 ws h
  omega
theorem tx_parts {ws : List Str} (h : ∀ w ∈ ws, WdC w) (n : ws = [] ∨ 2 ≤ ws.length) : Parts ws (tx ws) := by
  rcases n with rfl | n
  · exact .inl ⟨rfl, rfl⟩
  · refine .inr ⟨?_, fun z => ?_, fun w m z => ((h w m).1 32 z).2 rfl, (tx_cps ws).symm⟩
    · have h := joinC_len (ws.map (·.cps.toList))
      rw [← tx_cps, List.length_map] at h
      show 0 < (tx ws).cps.toList.length
      omega
    · rw [z] at n
      cases n
theorem game_two (os : List (Str × Bool)) (us : List (Str × Int)) (rs : List (Str × List St)) : gameW os us rs = [] ∨ 2 ≤ (gameW os us rs).length := by
  unfold gameW
  rw [List.length_append, List.length_append]
  cases os with
  | cons q os =>
    right
    rw [fl_cons, List.length_append]
    show 2 ≤ 3 + _ + _
    omega
  | nil =>
    cases us with
    | cons q us =>
      right
      rw [fl_cons (f := varW), List.length_append (as := varW q)]
      show 2 ≤ _ + (3 + _ + _)
      omega
    | nil =>
      cases rs with
      | cons q rs =>
        right
        rw [fl_cons (f := rndW), List.length_append (as := rndW q)]
        show 2 ≤ _ + (_ + ((blockW q.2 ++ (["end"] : List Str)).length + 1 + 1 + _))
        omega
      | nil => exact .inl rfl
theorem wds_of {ws : List Str} (h : ∀ w ∈ ws, WdC w) : Wds ws := fun w m => ⟨fun c mc => ((h w m).1 c mc).1, Nat.le_trans (h w m).2 (by decide)⟩
def pcs (os : List (Str × Bool)) (us : List (Str × Int)) (rs : List (Str × List St)) : List (List Str) := (os.map optW ++ us.map varW) ++ rs.map rndW
theorem pcs_flat (os : List (Str × Bool)) (us : List (Str × Int)) (rs : List (Str × List St)) : (pcs os us rs).flatten = gameW os us rs := by
  unfold pcs gameW fl
  rw [List.flatten_append, List.flatten_append, List.append_assoc]
theorem sum_tx : ∀ pss : List (List Str), (∀ ps ∈ pss, ∀ w ∈ ps, WdC w) → ((pss.map tx).map (·.length)).sum ≤ 13 * pss.flatten.length
  | [], _ => by simp
  | ps :: r, h => by
    have h1 := sum_tx r fun x m => h x (List.mem_cons_of_mem _ m)
    have h2 := tx_len12 (h ps List.mem_cons_self)
    rw [List.map_cons, List.map_cons, List.sum_cons, List.flatten_cons, List.length_append]
    omega
theorem len_flat : ∀ pss : List (List Str), (∀ ps ∈ pss, ps ≠ []) → pss.length ≤ pss.flatten.length
  | [], _ => by simp
  | ps :: r, h => by
    have h1 := len_flat r fun x m => h x (List.mem_cons_of_mem _ m)
    have h2 := List.length_pos_iff.mpr (h ps List.mem_cons_self)
    rw [List.flatten_cons, List.length_append, List.length_cons]
    omega
theorem pcs_ne {os : List (Str × Bool)} {us : List (Str × Int)} {rs : List (Str × List St)} : ∀ ps ∈ pcs os us rs, ps ≠ [] := fun ps m => by
  rcases List.mem_append.mp m with m | m
  · rcases List.mem_append.mp m with m | m
    · obtain ⟨x, _, rfl⟩ := List.mem_map.mp m
      exact fun z => by cases z
    · obtain ⟨x, _, rfl⟩ := List.mem_map.mp m
      exact fun z => by cases z
  · obtain ⟨x, _, rfl⟩ := List.mem_map.mp m
    exact fun z => by cases z
theorem pcs_wd {os : List (Str × Bool)} {us : List (Str × Int)} {rs : List (Str × List St)} (h : GOk os us rs) : ∀ ps ∈ pcs os us rs, ∀ w ∈ ps, WdC w := fun ps m w mw => game_wd h w (by
  rw [← pcs_flat]
  exact List.mem_flatten.mpr ⟨ps, m, mw⟩)
theorem pcs_len {os : List (Str × Bool)} {us : List (Str × Int)} {rs : List (Str × List St)} {ps : List Str} (m : ps ∈ pcs os us rs) : ps.length ≤ (gameW os us rs).length := by
  rw [← pcs_flat]
  have : ∀ (pss : List (List Str)), ps ∈ pss → ps.length ≤ pss.flatten.length := by
    intro pss
    induction pss with
    | nil => exact fun z => by cases z
    | cons q r ih =>
      intro z
      rw [List.flatten_cons, List.length_append]
      rcases List.mem_cons.mp z with rfl | z
      · omega
      · have := ih z
        omega
  exact this _ m
/-- rounds, from so many draws and moves to so many -/
def GRt (vs os : List Str) : List (Str × List St) → Nat × Nat → Nat × Nat → Prop
  | [], a, b => b = a
  | q :: r, a, b => ∃ m, GL vs os q.2 a m ∧ lvL q.2 ≤ 8 ∧ GRt vs os r m b
theorem GRt.toGR {vs os : List Str} : ∀ {rs : List (Str × List St)} {a b : Nat × Nat}, GRt vs os rs a b → GR vs os rs a
  | [], _, _, _ => trivial
  | _ :: _, _, _, ⟨m, h1, h2, h3⟩ => ⟨m, h1, h2, GRt.toGR h3⟩
theorem GRt.snoc {vs os : List Str} : ∀ {rs : List (Str × List St)} {q : Str × List St} {a m b : Nat × Nat}, GRt vs os rs a m → GL vs os q.2 m b → lvL q.2 ≤ 8 → GRt vs os (rs ++ [q]) a b
  | [], _, _, _, _, h, g, l => by
    have e : _ = _ := h
    subst e
    exact ⟨_, g, l, rfl⟩
  | _ :: _, _, _, _, _, ⟨m, h1, h2, h3⟩, g, l => ⟨m, h1, h2, GRt.snoc h3 g l⟩


/-! ### an own class with its own == (as in ratio.lean) -/
/-- an operator of an own class: both are its instances -/
def rBin (C : Addr) (sp : Sp) (E : XK) : R2 := fun x y H Q => ∃ a dx fs b dy gs, x = .ref a ∧ y = .ref b ∧ H a = some (.ins C dx fs) ∧ H b = some (.ins C dy gs) ∧ sp [x, y] H Q E
theorem op_cmp {X : Cx} {op : CmpOp} {C g : Addr} {n : Nat} {fd : FuncData} {ps : List Str} {sp : Sp} {E : XK} {CX : CXT} (hop : ∀ a b, compareOp op a b = richCompare op a b) (m : Meth X.K C (PySem.cmpInfo op).2.1 g)
    (F : FnOk X.prog X.w X.K X.mg X.base CX n g fd ps sp) (hr : Room n X.A) (hb : Binds X.K fd ps []) (hx : Passes CX X E) : OpR X (compareOp op) (rBin C sp E) := by
  intro pins s σ H x y v u Q I rx ry h
  obtain ⟨a, dx, fs, b, dy, gs, rfl, rfl, ha, hb', q⟩ := h
  cases (show v = Value.ref a from rx)
  cases (show u = Value.ref b from ry)
  obtain ⟨mA, O, _⟩ := ins_get I.hok ha
  obtain ⟨od, J, _⟩ := O.look
  obtain ⟨mA', O', _⟩ := ins_get I.hok hb'
  obtain ⟨od', J', _⟩ := O'.look
  obtain ⟨mm, hF⟩ := I.fr
  rw [hop]
  refine PySem.W.cmp_K (op := op) (tb := .ref C) hr.units0 hF I.ok.mod.kin J J'.type (by unfold PySem.W.notFirst; simp) m.at_ m.fn ?_
  refine wpAny_mono (run_fn (vs := [.ref a, .ref b]) (dvs := []) (ds := []) F hr hb .nil hx I (.cons rfl (.cons rfl .nil)) q) (fun w s' z => ?_) fun _ _ x => x
  obtain ⟨z', H', I', rz, qz⟩ := z
  exact SlX.cmpback rz ⟨z', H', I', rz, qz⟩


/-! ### a list or a tuple is gone through -/
def iEither (K : PySem.W.Frag) (te : TE) : TI := fun σ H R => iList K te σ H R ∨ iTup K te σ H R
theorem pi_either {X : Cx} {tg iter : Expr} {te : TE} (he : PE X iter te) : PI X tg iter (iEither X.K te) := ⟨fun pins s σ H R I h => h.elim (fun h => (pi_list he).run pins s σ H R I h) (fun h => (pi_tup he).run pins s σ H R I h)⟩

/-! ### the words tell the game -/
theorem game_reads {os : List (Str × Bool)} {us : List (Str × Int)} {rs : List (Str × List St)} (h : GOk os us rs) : optsM (gameW os us rs) 7 [] 0 = .ok os (0 + (fl optW os).length) ∧ varsM (gameW os us rs) 13 [] (0 + (fl optW os).length) = .ok us (0 + (fl optW os).length + (fl varW us).length) ∧
    ∀ c, Cur c (gameW os us rs) os us → rndsM c 9 [] (0 + (fl optW os).length + (fl varW us).length) (0, 0) = .ok rs (0 + (fl optW os).length + (fl varW us).length + (fl rndW rs).length) := by
  have s0 : SubAt (gameW os us rs) 0 (gameW os us rs) := fun j x e => by rw [Nat.zero_add]; exact e
  have hu := fl_head (f := varW) (w := "var") (fun x => ⟨_, rfl⟩) us (fl rndW rs)
  have hr := fl_head (f := rndW) (w := "round") (fun x => ⟨_, rfl⟩) rs []
  rw [List.append_nil] at hr
  obtain ⟨n1, n2, n3⟩ : ("var" : Str) ≠ "option" ∧ ("round" : Str) ≠ "option" ∧ ("round" : Str) ≠ "var" := by decide +kernel
  have r0 : ∀ w : Str, w ≠ "round" → (fl rndW rs)[0]? ≠ some w := fun w nw z => by
    rcases hr with ⟨_, e⟩ | ⟨r, e⟩
    · rw [e] at z; cases z
    · rw [e] at z
      exact nw (Option.some.inj z).symm
  have no1 : (gameW os us rs)[0 + (fl optW os).length]? ≠ some ("option" : Str) := by
    rw [Nat.zero_add, drop_head (ws := gameW os us rs) (a := fl optW os) rfl]
    rcases hu with ⟨_, e⟩ | ⟨r, e⟩
    · rw [e]
      exact r0 _ n2.symm
    · rw [e]
      exact fun z => n1 (Option.some.inj z)
  have e1 : gameW os us rs = (fl optW os ++ fl varW us) ++ fl rndW rs := (List.append_assoc _ _ _).symm
  have no2 : (gameW os us rs)[0 + (fl optW os).length + (fl varW us).length]? ≠ some ("var" : Str) := by
    rw [Nat.zero_add, ← List.length_append, drop_head e1]
    exact r0 _ n3.symm
  have end_ : (gameW os us rs)[0 + (fl optW os).length + (fl varW us).length + (fl rndW rs).length]? = none := by
    rw [Nat.zero_add, ← List.length_append, ← List.length_append, ← e1]
    exact List.getElem?_eq_none (Nat.le_refl _)
  refine ⟨opts_back os 7 [] 0 s0.left h.o (by have := h.o6; show 0 + os.length ≤ 6; omega) (by have := h.o6; omega) no1, vars_back us 13 [] _ s0.right.left h.u h.un (by have := h.u12; show 0 + us.length ≤ 12; omega) (by have := h.u12; omega) no2, fun c hc => ?_⟩
  obtain ⟨c1, c2, c3, c4⟩ := hc
  refine rnds_back (by rw [c3]; exact h.u.1) c4 rs 9 [] _ (0, 0) (by rw [c1]; exact s0.right.right) h.r (by rw [c2, c3]; exact h.g) (by have := h.r8; show 0 + rs.length ≤ 8; omega) (by have := h.r8; omega) ?_
  rw [c1, end_]
  exact fun z => by cases z
theorem gameW_inj {os os' : List (Str × Bool)} {us us' : List (Str × Int)} {rs rs' : List (Str × List St)} (h : GOk os us rs) (h' : GOk os' us' rs') (e : gameW os us rs = gameW os' us' rs') : os = os' ∧ us = us' ∧ rs = rs' := by
  obtain ⟨a1, a2, a3⟩ := game_reads h
  obtain ⟨b1, b2, b3⟩ := game_reads h'
  rw [e] at a1 a2 a3
  obtain ⟨e1, n1⟩ := HdR.ok.inj (a1.symm.trans b1)
  rw [n1] at a2 a3
  obtain ⟨e2, n2⟩ := HdR.ok.inj (a2.symm.trans b2)
  rw [n2, e1, e2] at a3
  have c : Cur ⟨0, 0, 0, 0, os'.map (·.1), us'.map (·.1), gameW os' us' rs', false⟩ (gameW os' us' rs') os' us' := ⟨rfl, rfl, rfl, rfl⟩
  obtain ⟨e3, _⟩ := HdR.ok.inj ((a3 _ c).symm.trans (b3 _ c))
  exact ⟨e1, e2, e3⟩
theorem tx_inj {os os' : List (Str × Bool)} {us us' : List (Str × Int)} {rs rs' : List (Str × List St)} (h : GOk os us rs) (h' : GOk os' us' rs') : tx (gameW os us rs) = tx (gameW os' us' rs') ↔ (os = os' ∧ us = us' ∧ rs = rs') := by
  refine ⟨fun e => ?_, fun ⟨e1, e2, e3⟩ => by rw [e1, e2, e3]⟩
  have p1 := tx_parts (game_wd h) (game_two os us rs)
  have p2 := tx_parts (game_wd h') (game_two os' us' rs')
  rw [e] at p1
  exact gameW_inj h h' (parts_uniq p1 p2)


def okStrE : V → Prop := fun v => ∃ y : Str, v = .str y ∧ y.length ≤ 100
theorem okStr_len {y : Str} (a : Str) (h : y.length ≤ 100) (ha : decide (a.length ≤ 1000) = true) : (a ++ y).length ≤ sizeLine := by
  have h2 : a.length ≤ 1000 := of_decide_eq_true ha
  rw [app_len, sizeLine_eq]
  omega


/-! ### games put together -/
section
/-- a module's dict of texts, asked at a text: what stands there, or nothing -/
def KNon (K : PySem.W.Frag) (w : World) (a : Addr) (x : Str) : Prop :=
  ∃ es n, K.lookup a = some ⟨.type "dict", none, .dict es n, #[]⟩ ∧ PySem.W.KeysLit w.params es.toList ∧ PySem.W.nsIn K a x = some none
def KGet (K : PySem.W.Frag) (w : World) (a : Addr) (x : Str) (o : Option V) : Prop := match o with
  | some v => KDct K w a x v
  | none => KNon K w a x
def tKGet2 (K : PySem.W.Frag) (w : World) (td ty tx : TE) : TE := fun σ H Q => td σ H fun x H1 => ∃ a, x = .ref a ∧ (a == sysModules) = false ∧ (∃ z o, KGet K w a z o) ∧ ty σ H1 fun y H2 => tx σ H2 fun d H3 => ∃ z o, y = .str z ∧ KGet K w a z o ∧ Q (o.getD d) H3
theorem KGet.dict {K : PySem.W.Frag} {w : World} {a : Addr} {x : Str} {o : Option V} (h : KGet K w a x o) : ∃ es n r, K.lookup a = some ⟨.type "dict", none, .dict es n, #[]⟩ ∧ PySem.W.KeysLit w.params es.toList ∧ PySem.W.nsIn K a x = some r ∧ (∀ (d : V) (u : Value), RelV d u → RelV (o.getD d) (r.getD u)) := by
  cases o with
  | none =>
    obtain ⟨es, n, h1, h2, h3⟩ := h
    exact ⟨es, n, none, h1, h2, h3, fun _ _ z => z⟩
  | some v =>
    obtain ⟨es, n, u, h1, h2, h3, h4⟩ := h
    exact ⟨es, n, some u, h1, h2, h3, fun _ _ _ => h4⟩
theorem pe_kget2 {X : Cx} {o e f : Expr} {apos cpos : Pos} {td ty tx : TE} (ho : PE X o td) (he : PE X e ty) (hf : PE X f tx) (m : M2 X o "get" apos e f cpos) : PE X (.Call (.Attribute o "get" apos) [e, f] [] cpos) (tKGet2 X.K X.w td ty tx) := by
  refine ⟨fun pins s σ H Q I h => ?_⟩
  refine wpAny_Call_method m.base m.few m.line PySem.F.plainAttrs_dict PySem.F.slot_dict_get PySem.F.type_dict_get (thn (ho.run pins s σ H _ I h) fun u s1 ⟨x, H1, I1, rx, a, ex, hsm, ⟨z0, o0, k0⟩, q1⟩ => ?_)
  subst ex
  obtain rfl : u = Value.ref a := rx
  obtain ⟨es, n, r, hl, hk, _, _⟩ := k0.dict
  have hm1 := PySem.W.mapOf_K (prog := X.prog) (w := X.w) I1.kIn hl hk
  refine ⟨hm1.typeIs, fun b q => ?_, ?_⟩
  · cases q
    exact ⟨_, I1.kIn _ _ hl, rfl⟩
  rw [m.trees]
  refine Calls.callWith_builtin rfl (Calls.evalArgs_plain (Calls.spliced_cons (thn (he.run pins s1 σ H1 _ I1 q1) fun iv s2 ⟨y, H2, I2, ry, q2⟩ =>
    Calls.spliced_cons (thn (hf.run pins s2 σ H2 _ I2 q2) fun fv s3 ⟨d, H3, I3, rd, z, ov, ey, g, q3⟩ => Calls.spliced_nil ?_))))
  subst ey
  obtain ⟨t, rfl⟩ := (show ∃ t, iv = Value.str z t from ry)
  obtain ⟨es', n', r', hl', hk', hn', hr'⟩ := g.dict
  have hm := PySem.W.mapOf_K (prog := X.prog) (w := X.w) I3.kIn hl' hk'
  refine call_meetsIn PySem.F.slot_dict_get hm.typeIs PySem.F.entry_dict_get (PySem.F.args_dict_get_3 _ _ _) (PySem.meets_dict_get_default (PySem.strKind X.prog X.w) a (PySem.strKind_is X.prog X.w z t) hsm fv) ⟨_, hm, ?_⟩
  show EP _ _ _ _ _ _
  rw [PySem.W.find_K hl' hn']
  exact ⟨ov.getD d, H3, I3.tok _, hr' d fv rd, q3⟩
end
def oth (p : Int) : Int := if p = 1 then 2 else if p = 2 then 1 else p
def othP (s : Str) : Str := if s = "pay" then "take" else if s = "take" then "pay" else s
theorem oth_oth (p : Int) : oth (oth p) = p := by
  by_cases h1 : p = 1
  · subst h1
    decide
  by_cases h2 : p = 2
  · subst h2
    decide
  have e : oth p = p := by
    unfold oth
    rw [if_neg h1, if_neg h2]
  rw [e, e]
theorem othP_othP (s : Str) : othP (othP s) = s := by
  by_cases h1 : s = "pay"
  · subst h1
    decide +kernel
  by_cases h2 : s = "take"
  · subst h2
    decide +kernel
  have e : othP s = s := by
    unfold othP
    rw [if_neg h1, if_neg h2]
  rw [e, e]
mutual
def St.swp : St → St
  | .ite e t f => .ite e (swpL t) (swpL f)
  | .whn o t f => .whn o (swpL t) (swpL f)
  | .move p x n k => .move (oth p) x n k
  | .show p e => .show (oth p) e
  | .pay s e => .pay (othP s) e
  | .set x e => .set x e
  | .draw x n => .draw x n
def swpL : List St → List St
  | [] => []
  | s :: r => s.swp :: swpL r
end
theorem swpL_map : ∀ ss : List St, swpL ss = ss.map St.swp
  | [] => rfl
  | s :: r => by
    show s.swp :: swpL r = _
    rw [swpL_map r]
    rfl
theorem swpL_take {ss : List St} {i : Nat} {s : St} (h : ss[i]? = some s) : swpL (ss.take (i + 1)) = swpL (ss.take i) ++ [s.swp] := by
  rw [swpL_map, swpL_map, List.take_add_one, h, List.map_append]
  rfl
mutual
theorem swp_swp : ∀ s : St, s.swp.swp = s
  | .ite e t f => by
    show St.ite e (swpL (swpL t)) (swpL (swpL f)) = _
    rw [swp_swpL t, swp_swpL f]
  | .whn o t f => by
    show St.whn o (swpL (swpL t)) (swpL (swpL f)) = _
    rw [swp_swpL t, swp_swpL f]
  | .move p x n k => by
    show St.move (oth (oth p)) x n k = _
    rw [oth_oth]
  | .show p e => by
    show St.show (oth (oth p)) e = _
    rw [oth_oth]
  | .pay s e => by
    show St.pay (othP (othP s)) e = _
    rw [othP_othP]
  | .set x e => rfl
  | .draw x n => rfl
theorem swp_swpL : ∀ ss : List St, swpL (swpL ss) = ss
  | [] => rfl
  | s :: r => by
    show s.swp.swp :: swpL (swpL r) = _
    rw [swp_swp s, swp_swpL r]
end
mutual
theorem swp_g {vs os : List Str} : ∀ (s : St) {a b : Nat × Nat}, s.G vs os a b → s.swp.G vs os a b
  | .ite _ t f, _, _, ⟨e, m, h1, h2⟩ => ⟨e, m, swpL_g t h1, swpL_g f h2⟩
  | .whn _ t f, _, _, ⟨e, m, h1, h2⟩ => ⟨e, m, swpL_g t h1, swpL_g f h2⟩
  | .move p x n k, _, _, ⟨hp, r⟩ => ⟨by
      show oth p = 1 ∨ oth p = 2
      rcases hp with rfl | rfl
      · exact .inr rfl
      · exact .inl rfl, r⟩
  | .show p e, _, _, ⟨hp, r⟩ => ⟨by
      show 0 ≤ oth p ∧ oth p < 3
      unfold oth
      split
      · omega
      · split <;> omega, r⟩
  | .pay s e, _, _, ⟨hp, r⟩ => ⟨by
      show othP s = "pay" ∨ othP s = "take"
      rcases hp with rfl | rfl
      · exact .inr rfl
      · refine .inl ?_
        unfold othP
        rw [if_neg (by decide +kernel : ("take" : Str) ≠ "pay"), if_pos rfl], r⟩
  | .set _ _, _, _, h => h
  | .draw _ _, _, _, h => h
theorem swpL_g {vs os : List Str} : ∀ (ss : List St) {a b : Nat × Nat}, GL vs os ss a b → GL vs os (swpL ss) a b
  | [], _, _, h => h
  | s :: r, _, _, ⟨m, h1, h2⟩ => ⟨m, swp_g s h1, swpL_g r h2⟩
end
mutual
theorem swp_z : ∀ s : St, s.swp.lv = s.lv ∧ s.swp.sz = s.sz ∧ s.swp.words.length = s.words.length
  | .ite e t f => by
    obtain ⟨a1, a2, a3, a4⟩ := swpL_z t
    obtain ⟨b1, b2, b3, b4⟩ := swpL_z f
    refine ⟨?_, ?_, ?_⟩
    · show max (lvL (swpL t)) (lvL (swpL f)) + 1 = max (lvL t) (lvL f) + 1
      rw [a1, b1]
    · show 1 + szL (swpL t) + szL (swpL f) = 1 + szL t + szL f
      rw [a2, b2]
    · show (e.words ++ (blockW (swpL t) ++ ((if swpL f = [] then [] else (("else" : Str) :: blockW (swpL f))) ++ (["end"] : List Str)))).length + 1 = (e.words ++ (blockW t ++ ((if f = [] then [] else (("else" : Str) :: blockW f)) ++ (["end"] : List Str)))).length + 1
      have : (if swpL f = [] then ([] : List Str) else (("else" : Str) :: blockW (swpL f))).length = (if f = [] then ([] : List Str) else (("else" : Str) :: blockW f)).length := by
        by_cases z : f = []
        · rw [if_pos (b4.mpr z), if_pos z]
        · rw [if_neg (fun y => z (b4.mp y)), if_neg z, List.length_cons, List.length_cons, b3]
      simp only [List.length_append, a3, this]
  | .whn o t f => by
    obtain ⟨a1, a2, a3, a4⟩ := swpL_z t
    obtain ⟨b1, b2, b3, b4⟩ := swpL_z f
    refine ⟨?_, ?_, ?_⟩
    · show max (lvL (swpL t)) (lvL (swpL f)) + 1 = max (lvL t) (lvL f) + 1
      rw [a1, b1]
    · show 1 + szL (swpL t) + szL (swpL f) = 1 + szL t + szL f
      rw [a2, b2]
    · show (blockW (swpL t) ++ ((if swpL f = [] then [] else (("else" : Str) :: blockW (swpL f))) ++ (["end"] : List Str))).length + 1 + 1 = (blockW t ++ ((if f = [] then [] else (("else" : Str) :: blockW f)) ++ (["end"] : List Str))).length + 1 + 1
      have : (if swpL f = [] then ([] : List Str) else (("else" : Str) :: blockW (swpL f))).length = (if f = [] then ([] : List Str) else (("else" : Str) :: blockW f)).length := by
        by_cases z : f = []
        · rw [if_pos (b4.mpr z), if_pos z]
        · rw [if_neg (fun y => z (b4.mp y)), if_neg z, List.length_cons, List.length_cons, b3]
      simp only [List.length_append, a3, this]
  | .move p x n k => ⟨rfl, rfl, rfl⟩
  | .show p e => ⟨rfl, rfl, rfl⟩
  | .pay s e => ⟨rfl, rfl, rfl⟩
  | .set x e => ⟨rfl, rfl, rfl⟩
  | .draw x n => ⟨rfl, rfl, rfl⟩
theorem swpL_z : ∀ ss : List St, lvL (swpL ss) = lvL ss ∧ szL (swpL ss) = szL ss ∧ (blockW (swpL ss)).length = (blockW ss).length ∧ (swpL ss = [] ↔ ss = [])
  | [] => ⟨rfl, rfl, rfl, Iff.rfl⟩
  | s :: r => by
    obtain ⟨a1, a2, a3⟩ := swp_z s
    obtain ⟨b1, b2, b3, _⟩ := swpL_z r
    refine ⟨?_, ?_, ?_, ⟨fun z => (by cases z), fun z => (by cases z)⟩⟩
    · show max s.swp.lv (lvL (swpL r)) = max s.lv (lvL r)
      rw [a1, b1]
    · show s.swp.sz + szL (swpL r) = s.sz + szL r
      rw [a2, b2]
    · show (s.swp.words ++ blockW (swpL r)).length = (s.words ++ blockW r).length
      rw [List.length_append, List.length_append, a3, b3]
end
def swpR (rs : List (Str × List St)) : List (Str × List St) := rs.map fun q => (q.1, swpL q.2)
theorem swpR_n (rs : List (Str × List St)) : (swpR rs).map (·.1) = rs.map (·.1) := by
  unfold swpR
  rw [List.map_map]
  rfl
theorem swpR_swpR (rs : List (Str × List St)) : swpR (swpR rs) = rs := by
  unfold swpR
  rw [List.map_map]
  conv => rhs; rw [← List.map_id rs]
  refine List.map_congr_left fun q _ => ?_
  show (q.1, swpL (swpL q.2)) = q
  rw [swp_swpL]
theorem swpR_g {vs os : List Str} : ∀ {rs : List (Str × List St)} {a : Nat × Nat}, GR vs os rs a → GR vs os (swpR rs) a
  | [], _, _ => trivial
  | q :: r, _, ⟨m, h1, h2, h3⟩ => ⟨m, swpL_g q.2 h1, by show lvL (swpL q.2) ≤ 8; rw [(swpL_z q.2).1]; exact h2, swpR_g h3⟩
theorem GOk.swp {os : List (Str × Bool)} {us : List (Str × Int)} {rs : List (Str × List St)} (h : GOk os us rs) : GOk os us (swpR rs) :=
  ⟨h.o, h.o6, h.u, h.u12, h.un, by rw [swpR_n]; exact h.r, by unfold swpR; rw [List.length_map]; exact h.r8, swpR_g h.g⟩
theorem swpR_w : ∀ rs : List (Str × List St), (fl rndW (swpR rs)).length = (fl rndW rs).length
  | [] => rfl
  | q :: r => by
    have h1 := swpR_w r
    have h2 := (swpL_z q.2).2.2.1
    show (rndW (q.1, swpL q.2) ++ fl rndW (swpR r)).length = (rndW q ++ fl rndW r).length
    rw [List.length_append, List.length_append, h1]
    show (blockW (swpL q.2) ++ (["end"] : List Str)).length + 1 + 1 + _ = (blockW q.2 ++ (["end"] : List Str)).length + 1 + 1 + _
    rw [List.length_append, List.length_append, h2]
theorem swp_gw (os : List (Str × Bool)) (us : List (Str × Int)) (rs : List (Str × List St)) : (gameW os us (swpR rs)).length = (gameW os us rs).length := by
  unfold gameW
  rw [List.length_append, List.length_append, List.length_append, List.length_append, swpR_w]
/-! #### numbers of moves -/
mutual
def St.num : St → Nat → St × Nat
  | .ite e t f, k => (.ite e (numbL t k).1 (numbL f (numbL t k).2).1, (numbL f (numbL t k).2).2)
  | .whn o t f, k => (.whn o (numbL t k).1 (numbL f (numbL t k).2).1, (numbL f (numbL t k).2).2)
  | .move p x n _, k => (.move p x n ((k : Nat) : Int), k + 1)
  | .show p e, k => (.show p e, k)
  | .pay s e, k => (.pay s e, k)
  | .set x e, k => (.set x e, k)
  | .draw x n, k => (.draw x n, k)
def numbL : List St → Nat → List St × Nat
  | [], k => ([], k)
  | s :: r, k => ((s.num k).1 :: (numbL r (s.num k).2).1, (numbL r (s.num k).2).2)
end
theorem numbL_app : ∀ (a b : List St) (k : Nat), numbL (a ++ b) k = ((numbL a k).1 ++ (numbL b (numbL a k).2).1, (numbL b (numbL a k).2).2)
  | [], b, k => rfl
  | s :: r, b, k => by
    show ((s.num k).1 :: (numbL (r ++ b) (s.num k).2).1, (numbL (r ++ b) (s.num k).2).2) = _
    rw [numbL_app r b]
    rfl
theorem numbL_len : ∀ (ss : List St) (k : Nat), (numbL ss k).1.length = ss.length
  | [], _ => rfl
  | s :: r, k => by
    show (numbL r (s.num k).2).1.length + 1 = r.length + 1
    rw [numbL_len r]
theorem numbL_take {ss : List St} {i : Nat} {s : St} (h : ss[i]? = some s) (k : Nat) : numbL (ss.take (i + 1)) k = ((numbL (ss.take i) k).1 ++ [(s.num (numbL (ss.take i) k).2).1], (s.num (numbL (ss.take i) k).2).2) := by
  rw [List.take_add_one, h, Option.toList, numbL_app]
  rfl
mutual
def St.ltr (c : Int) : St → St
  | .ite e t f => .ite e (ltrL c t) (ltrL c f)
  | .whn o t f => .whn o (ltrL c t) (ltrL c f)
  | .move p x n k => .move p x n (k + c)
  | .show p e => .show p e
  | .pay s e => .pay s e
  | .set x e => .set x e
  | .draw x n => .draw x n
def ltrL (c : Int) : List St → List St
  | [] => []
  | s :: r => s.ltr c :: ltrL c r
end
theorem ltrL_map (c : Int) : ∀ ss : List St, ltrL c ss = ss.map (St.ltr c)
  | [] => rfl
  | s :: r => by
    show s.ltr c :: ltrL c r = _
    rw [ltrL_map c r]
    rfl
theorem ltrL_take {c : Int} {ss : List St} {i : Nat} {s : St} (h : ss[i]? = some s) : ltrL c (ss.take (i + 1)) = ltrL c (ss.take i) ++ [s.ltr c] := by
  rw [ltrL_map, ltrL_map, List.take_add_one, h, List.map_append]
  rfl
mutual
theorem num_ltr {vs os : List Str} (c : Nat) : ∀ (s : St) {a b : Nat × Nat}, s.G vs os a b → s.num (a.2 + c) = (s.ltr ((c : Nat) : Int), b.2 + c)
  | .ite e t f, a, b, ⟨_, m, h1, h2⟩ => by
    have e1 := numbL_ltr c t h1
    have e2 := numbL_ltr c f h2
    show (St.ite e (numbL t (a.2 + c)).1 (numbL f (numbL t (a.2 + c)).2).1, (numbL f (numbL t (a.2 + c)).2).2) = _
    rw [e1, e2]
    rfl
  | .whn o t f, a, b, ⟨_, m, h1, h2⟩ => by
    have e1 := numbL_ltr c t h1
    have e2 := numbL_ltr c f h2
    show (St.whn o (numbL t (a.2 + c)).1 (numbL f (numbL t (a.2 + c)).2).1, (numbL f (numbL t (a.2 + c)).2).2) = _
    rw [e1, e2]
    rfl
  | .move p x n k, a, b, ⟨_, _, _, hk, _, hb⟩ => by
    subst hb
    subst hk
    show (St.move p x n ((a.2 + c : Nat) : Int), a.2 + c + 1) = (St.move p x n (((a.2 : Nat) : Int) + ((c : Nat) : Int)), a.2 + 1 + c)
    rw [Int.natCast_add, show a.2 + c + 1 = a.2 + 1 + c by omega]
  | .show p e, a, b, ⟨_, _, h⟩ => by subst h; rfl
  | .pay s e, a, b, ⟨_, _, h⟩ => by subst h; rfl
  | .set x e, a, b, ⟨_, _, h⟩ => by subst h; rfl
  | .draw x n, a, b, ⟨_, _, _, h⟩ => by subst h; rfl
theorem numbL_ltr {vs os : List Str} (c : Nat) : ∀ (ss : List St) {a b : Nat × Nat}, GL vs os ss a b → numbL ss (a.2 + c) = (ltrL ((c : Nat) : Int) ss, b.2 + c)
  | [], a, b, h => by
    have h' : b = a := h
    subst h'
    rfl
  | s :: r, a, b, ⟨m, h1, h2⟩ => by
    have e1 := num_ltr c s h1
    have e2 := numbL_ltr c r h2
    show ((s.num (a.2 + c)).1 :: (numbL r (s.num (a.2 + c)).2).1, (numbL r (s.num (a.2 + c)).2).2) = _
    rw [e1, e2]
    rfl
end
mutual
theorem ltr_0 : ∀ s : St, s.ltr 0 = s
  | .ite e t f => by
    show St.ite e (ltrL 0 t) (ltrL 0 f) = _
    rw [ltrL_0 t, ltrL_0 f]
  | .whn o t f => by
    show St.whn o (ltrL 0 t) (ltrL 0 f) = _
    rw [ltrL_0 t, ltrL_0 f]
  | .move p x n k => by
    show St.move p x n (k + 0) = _
    rw [Int.add_zero]
  | .show p e => rfl
  | .pay s e => rfl
  | .set x e => rfl
  | .draw x n => rfl
theorem ltrL_0 : ∀ ss : List St, ltrL 0 ss = ss
  | [] => rfl
  | s :: r => by
    show s.ltr 0 :: ltrL 0 r = _
    rw [ltr_0 s, ltrL_0 r]
end
mutual
theorem ltr_z (c : Int) {ns ps : List Str} : ∀ s : St, (s.ltr c).lv = s.lv ∧ (s.ltr c).sz = s.sz ∧ (s.Wf ns ps → (s.ltr c).Wf ns ps)
  | .ite e t f => by
    obtain ⟨a1, a2, a3⟩ := ltrL_z c (ns := ns) (ps := ps) t
    obtain ⟨b1, b2, b3⟩ := ltrL_z c (ns := ns) (ps := ps) f
    refine ⟨?_, ?_, fun w => ⟨w.1, a3 w.2.1, b3 w.2.2⟩⟩
    · show max (lvL (ltrL c t)) (lvL (ltrL c f)) + 1 = max (lvL t) (lvL f) + 1
      rw [a1, b1]
    · show 1 + szL (ltrL c t) + szL (ltrL c f) = 1 + szL t + szL f
      rw [a2, b2]
  | .whn o t f => by
    obtain ⟨a1, a2, a3⟩ := ltrL_z c (ns := ns) (ps := ps) t
    obtain ⟨b1, b2, b3⟩ := ltrL_z c (ns := ns) (ps := ps) f
    refine ⟨?_, ?_, fun w => ⟨w.1, a3 w.2.1, b3 w.2.2⟩⟩
    · show max (lvL (ltrL c t)) (lvL (ltrL c f)) + 1 = max (lvL t) (lvL f) + 1
      rw [a1, b1]
    · show 1 + szL (ltrL c t) + szL (ltrL c f) = 1 + szL t + szL f
      rw [a2, b2]
  | .move p x n k => ⟨rfl, rfl, fun w => w⟩
  | .show p e => ⟨rfl, rfl, fun w => w⟩
  | .pay s e => ⟨rfl, rfl, fun w => w⟩
  | .set x e => ⟨rfl, rfl, fun w => w⟩
  | .draw x n => ⟨rfl, rfl, fun w => w⟩
theorem ltrL_z (c : Int) {ns ps : List Str} : ∀ ss : List St, lvL (ltrL c ss) = lvL ss ∧ szL (ltrL c ss) = szL ss ∧ (WfL ns ps ss → WfL ns ps (ltrL c ss))
  | [] => ⟨rfl, rfl, fun _ => trivial⟩
  | s :: r => by
    obtain ⟨a1, a2, a3⟩ := ltr_z c (ns := ns) (ps := ps) s
    obtain ⟨b1, b2, b3⟩ := ltrL_z c (ns := ns) (ps := ps) r
    refine ⟨?_, ?_, fun w => ⟨a3 w.1, b3 w.2⟩⟩
    · show max (s.ltr c).lv (lvL (ltrL c r)) = max s.lv (lvL r)
      rw [a1, b1]
    · show (s.ltr c).sz + szL (ltrL c r) = s.sz + szL r
      rw [a2, b2]
end
def ltrR (c : Int) (rs : List (Str × List St)) : List (Str × List St) := rs.map fun q => (q.1, ltrL c q.2)
/-- the numbers of the moves of rounds -/
def numbR : List (Str × List St) → Nat → List (Str × List St) × Nat
  | [], k => ([], k)
  | q :: r, k => ((q.1, (numbL q.2 k).1) :: (numbR r (numbL q.2 k).2).1, (numbR r (numbL q.2 k).2).2)
theorem numbR_app : ∀ (a b : List (Str × List St)) (k : Nat), numbR (a ++ b) k = ((numbR a k).1 ++ (numbR b (numbR a k).2).1, (numbR b (numbR a k).2).2)
  | [], b, k => rfl
  | q :: r, b, k => by
    show ((q.1, (numbL q.2 k).1) :: (numbR (r ++ b) (numbL q.2 k).2).1, (numbR (r ++ b) (numbL q.2 k).2).2) = _
    rw [numbR_app r b]
    rfl
theorem numbR_take {rs : List (Str × List St)} {i : Nat} {q : Str × List St} (h : rs[i]? = some q) (k : Nat) : numbR (rs.take (i + 1)) k = ((numbR (rs.take i) k).1 ++ [(q.1, (numbL q.2 (numbR (rs.take i) k).2).1)], (numbL q.2 (numbR (rs.take i) k).2).2) := by
  rw [List.take_add_one, h, Option.toList, numbR_app]
  rfl
theorem numbR_ltr {vs os : List Str} (c : Nat) : ∀ {rs : List (Str × List St)} {a b : Nat × Nat}, GRt vs os rs a b → numbR rs (a.2 + c) = (ltrR ((c : Nat) : Int) rs, b.2 + c)
  | [], a, b, h => by
    have h' : b = a := h
    subst h'
    rfl
  | q :: r, a, b, ⟨m, h1, _, h3⟩ => by
    have e1 := numbL_ltr c q.2 h1
    have e2 := numbR_ltr c h3
    show ((q.1, (numbL q.2 (a.2 + c)).1) :: (numbR r (numbL q.2 (a.2 + c)).2).1, (numbR r (numbL q.2 (a.2 + c)).2).2) = _
    rw [e1, e2]
    rfl
theorem ltrR_0 (rs : List (Str × List St)) : ltrR 0 rs = rs := by
  unfold ltrR
  conv => rhs; rw [← List.map_id rs]
  refine List.map_congr_left fun q _ => ?_
  show (q.1, ltrL 0 q.2) = q
  rw [ltrL_0]
/-- two games' rounds: those of the second one are numbered on -/
theorem numbR_two {vs os vs' os' : List Str} {rs rs' : List (Str × List St)} {b b' : Nat × Nat} (h : GRt vs os rs (0, 0) b) (h' : GRt vs' os' rs' (0, 0) b') : (numbR (rs ++ rs') 0).1 = rs ++ ltrR ((b.2 : Nat) : Int) rs' := by
  have e1 := numbR_ltr 0 h
  have e2 := numbR_ltr b.2 h'
  have e1' : numbR rs 0 = (ltrR 0 rs, b.2) := e1
  rw [ltrR_0] at e1'
  have e2' : numbR rs' (0 + b.2) = _ := e2
  rw [Nat.zero_add] at e2'
  rw [numbR_app, e1']
  show rs ++ (numbR rs' b.2).1 = _
  rw [e2']

/-- a statement that is never come to -/
theorem ps_never {X : Cx} {st : Stmt} : PS X st (fun _ _ _ => False) := ⟨fun _ _ _ _ _ _ h => h.elim⟩

structure Txt (K : PySem.W.Frag) (mg : Str → Option Value) (w : World) where
  C_Game : Addr
  C_Numbering : Addr
  C_BadEdit : Addr
  a_BadEdit_init : Addr
  d_BadEdit_init : FuncData
  m_BadEdit : mg "BadEdit" = some (.ref C_BadEdit)
  e_BadEdit : ErrC K C_BadEdit a_BadEdit_init s_BadEdit_init "BadEdit.__init__" "what" d_BadEdit_init
  b_BadEdit_init : Binds K d_BadEdit_init ["self", "what"] []
  t_BadEdit : PySem.W.exmOne K (.ref C_BadEdit) (.ref C_BadEdit) = some true
  C_GameError : Addr
  m_GameError : mg "GameError" = some (.ref C_GameError)
  t_BadEdit_GameError : PySem.W.exmOne K (.ref C_BadEdit) (.ref C_GameError) = some true
  i_BadEdit : ErrI K C_BadEdit
  kv_BadEdit : PySem.W.kitOne K (.ref C_BadEdit) (.type "ValueError") = some true
  kk_BadEdit_GameError : PySem.W.kitOne K (.ref C_BadEdit) (.ref C_GameError) = some true
  kk_BadEdit_BadEdit : PySem.W.kitOne K (.ref C_BadEdit) (.ref C_BadEdit) = some true
  z_super : mg "super" = none
  a_Game_init : Addr
  d_Game_init : FuncData
  F_Game_init : Fun K "__init__" "Game.__init__" s_Game_init a_Game_init d_Game_init
  b_Game_init : Binds K d_Game_init ["self", "options", "variables", "rounds"] []
  mk_Game : Mk K C_Game a_Game_init
  a_Numbering_init : Addr
  d_Numbering_init : FuncData
  F_Numbering_init : Fun K "__init__" "Numbering.__init__" s_Numbering_init a_Numbering_init d_Numbering_init
  b_Numbering_init : Binds K d_Numbering_init ["self"] []
  mk_Numbering : Mk K C_Numbering a_Numbering_init
  a_Game_eq : Addr
  d_Game_eq : FuncData
  F_Game_eq : Fun K "__eq__" "Game.__eq__" s_Game_eq a_Game_eq d_Game_eq
  b_Game_eq : Binds K d_Game_eq ["self", "other"] []
  me_Game_eq : Meth K C_Game "__eq__" a_Game_eq
  a_swapped_statement : Addr
  d_swapped_statement : FuncData
  F_swapped_statement : Fun K "_swapped_statement" "_swapped_statement" s_swapped_statement a_swapped_statement d_swapped_statement
  b_swapped_statement : Binds K d_swapped_statement ["statement"] []
  m_swapped_statement : mg "_swapped_statement" = some (.ref a_swapped_statement)
  a_swapped_block : Addr
  d_swapped_block : FuncData
  F_swapped_block : Fun K "_swapped_block" "_swapped_block" s_swapped_block a_swapped_block d_swapped_block
  b_swapped_block : Binds K d_swapped_block ["block"] []
  m_swapped_block : mg "_swapped_block" = some (.ref a_swapped_block)
  a_swapped : Addr
  d_swapped : FuncData
  F_swapped : Fun K "swapped" "swapped" s_swapped a_swapped d_swapped
  b_swapped : Binds K d_swapped ["game"] []
  m_swapped : mg "swapped" = some (.ref a_swapped)
  a_Numbering_statement : Addr
  d_Numbering_statement : FuncData
  F_Numbering_statement : Fun K "_statement" "Numbering._statement" s_Numbering_statement a_Numbering_statement d_Numbering_statement
  b_Numbering_statement : Binds K d_Numbering_statement ["self", "statement"] []
  me_Numbering_statement : Meth K C_Numbering "_statement" a_Numbering_statement
  a_Numbering_numbered : Addr
  d_Numbering_numbered : FuncData
  F_Numbering_numbered : Fun K "numbered" "Numbering.numbered" s_Numbering_numbered a_Numbering_numbered d_Numbering_numbered
  b_Numbering_numbered : Binds K d_Numbering_numbered ["self", "block"] []
  me_Numbering_numbered : Meth K C_Numbering "numbered" a_Numbering_numbered
  a_before : Addr
  d_before : FuncData
  F_before : Fun K "before" "before" s_before a_before d_before
  b_before : Binds K d_before ["game", "other"] []
  m_before : mg "before" = some (.ref a_before)
  a_switched : Addr
  d_switched : FuncData
  F_switched : Fun K "switched" "switched" s_switched a_switched d_switched
  b_switched : Binds K d_switched ["game", "names"] []
  m_switched : mg "switched" = some (.ref a_switched)
  a_law_pool : Addr
  d_law_pool : FuncData
  F_law_pool : Fun K "_law_pool" "_law_pool" s_law_pool a_law_pool d_law_pool
  b_law_pool : Binds K d_law_pool ["script", "budget"] []
  m_law_pool : mg "_law_pool" = some (.ref a_law_pool)
  a_law_draw : Addr
  d_law_draw : FuncData
  F_law_draw : Fun K "_law_draw" "_law_draw" s_law_draw a_law_draw d_law_draw
  b_law_draw : Binds K d_law_draw ["pool", "size"] []
  m_law_draw : mg "_law_draw" = some (.ref a_law_draw)
  a_law_spend : Addr
  d_law_spend : FuncData
  F_law_spend : Fun K "_law_spend" "_law_spend" s_law_spend a_law_spend d_law_spend
  b_law_spend : Binds K d_law_spend ["pool"] []
  m_law_spend : mg "_law_spend" = some (.ref a_law_spend)
  a_law_few : Addr
  d_law_few : FuncData
  F_law_few : Fun K "_law_few" "_law_few" s_law_few a_law_few d_law_few
  b_law_few : Binds K d_law_few ["pool", "most"] []
  m_law_few : mg "_law_few" = some (.ref a_law_few)
  a_law_number : Addr
  d_law_number : FuncData
  F_law_number : Fun K "_law_number" "_law_number" s_law_number a_law_number d_law_number
  b_law_number : Binds K d_law_number ["pool"] []
  m_law_number : mg "_law_number" = some (.ref a_law_number)
  a_law_same : Addr
  d_law_same : FuncData
  F_law_same : Fun K "_law_same" "_law_same" s_law_same a_law_same d_law_same
  b_law_same : Binds K d_law_same ["actual", "due"] []
  m_law_same : mg "_law_same" = some (.ref a_law_same)
  a_law_keys : Addr
  d_law_keys : FuncData
  F_law_keys : Fun K "_law_keys" "_law_keys" s_law_keys a_law_keys d_law_keys
  b_law_keys : Binds K d_law_keys [] []
  m_law_keys : mg "_law_keys" = some (.ref a_law_keys)
  a_law_name : Addr
  d_law_name : FuncData
  F_law_name : Fun K "_law_name" "_law_name" s_law_name a_law_name d_law_name
  b_law_name : Binds K d_law_name ["pool", "taken"] []
  m_law_name : mg "_law_name" = some (.ref a_law_name)
  a_law_expression : Addr
  d_law_expression : FuncData
  F_law_expression : Fun K "_law_expression" "_law_expression" s_law_expression a_law_expression d_law_expression
  b_law_expression : Binds K d_law_expression ["pool", "names", "picks", "deep"] []
  m_law_expression : mg "_law_expression" = some (.ref a_law_expression)
  a_law_statement : Addr
  d_law_statement : FuncData
  F_law_statement : Fun K "_law_statement" "_law_statement" s_law_statement a_law_statement d_law_statement
  b_law_statement : Binds K d_law_statement ["pool", "names", "picks", "deep", "state"] []
  m_law_statement : mg "_law_statement" = some (.ref a_law_statement)
  a_law_block : Addr
  d_law_block : FuncData
  F_law_block : Fun K "_law_block" "_law_block" s_law_block a_law_block d_law_block
  b_law_block : Binds K d_law_block ["pool", "names", "picks", "deep", "state"] []
  m_law_block : mg "_law_block" = some (.ref a_law_block)
  a_law_game : Addr
  d_law_game : FuncData
  F_law_game : Fun K "_law_game" "_law_game" s_law_game a_law_game d_law_game
  b_law_game : Binds K d_law_game ["pool", "names"] []
  m_law_game : mg "_law_game" = some (.ref a_law_game)
  a_law_turned : Addr
  d_law_turned : FuncData
  F_law_turned : Fun K "_law_turned" "_law_turned" s_law_turned a_law_turned d_law_turned
  b_law_turned : Binds K d_law_turned ["block"] []
  m_law_turned : mg "_law_turned" = some (.ref a_law_turned)
  a_law_later : Addr
  d_law_later : FuncData
  F_law_later : Fun K "_law_later" "_law_later" s_law_later a_law_later d_law_later
  b_law_later : Binds K d_law_later ["block", "count"] []
  m_law_later : mg "_law_later" = some (.ref a_law_later)
  a_law_is : Addr
  d_law_is : FuncData
  F_law_is : Fun K "_law_is" "_law_is" s_law_is a_law_is d_law_is
  b_law_is : Binds K d_law_is ["game", "due"] []
  m_law_is : mg "_law_is" = some (.ref a_law_is)
  a_law_switches : Addr
  d_law_switches : FuncData
  F_law_switches : Fun K "_law_switches" "_law_switches" s_law_switches a_law_switches d_law_switches
  b_law_switches : Binds K d_law_switches ["game", "made", "names"] []
  m_law_switches : mg "_law_switches" = some (.ref a_law_switches)
  a_law_joins : Addr
  d_law_joins : FuncData
  F_law_joins : Fun K "_law_joins" "_law_joins" s_law_joins a_law_joins d_law_joins
  b_law_joins : Binds K d_law_joins ["one", "other", "made"] []
  m_law_joins : mg "_law_joins" = some (.ref a_law_joins)
  a_law : Addr
  d_law : FuncData
  F_law : Fun K "law" "law" s_law a_law d_law
  b_law : Binds K d_law ["script"] []
  m_law : mg "law" = some (.ref a_law)
  m_Game : mg "Game" = some (.ref C_Game)
  cl_Game : Cls K C_Game
  n_Game_options : NoAttr K C_Game "options"
  n_Game_variables : NoAttr K C_Game "variables"
  n_Game_rounds : NoAttr K C_Game "rounds"
  ic_Game : C8.InsC K C_Game
  m_Numbering : mg "Numbering" = some (.ref C_Numbering)
  cl_Numbering : Cls K C_Numbering
  n_Numbering__count : NoAttr K C_Numbering "_count"
  A_OTHER_PAYMENTS : Addr
  g_OTHER_PAYMENTS : mg "OTHER_PAYMENTS" = some (.ref A_OTHER_PAYMENTS)
  kd_OTHER_PAYMENTS_0 : KDct K w A_OTHER_PAYMENTS "pay" (.str "take")
  kd_OTHER_PAYMENTS_1 : KDct K w A_OTHER_PAYMENTS "take" (.str "pay")
  A_OTHER_SEATS : Addr
  g_OTHER_SEATS : mg "OTHER_SEATS" = some (.ref A_OTHER_SEATS)
  q_OTHER_SEATS : ∀ H, SqT K H A_OTHER_SEATS [.int 0, .int 2, .int 1]
  qd_OTHER_SEATS : ∃ o, K.lookup A_OTHER_SEATS = some o ∧ o.cls = .type "tuple" ∧ o.dict = none
  sm_OTHER_PAYMENTS : (A_OTHER_PAYMENTS == sysModules) = false
  kn_set : KNon K w A_OTHER_PAYMENTS "set"
  kn_draw : KNon K w A_OTHER_PAYMENTS "draw"
  z_any : mg "any" = none
  z_bool : mg "bool" = none
  z_enumerate : mg "enumerate" = none
  z_int : mg "int" = none
  z_isinstance : mg "isinstance" = none
  z_len : mg "len" = none
  z_list : mg "list" = none
  z_min : mg "min" = none
  z_range : mg "range" = none
  z_str : mg "str" = none
  z_tuple : mg "tuple" = none
section
variable {P : Program} [PrOk P] {w : World} {K : PySem.W.Frag} {mg : Str → Option Value} {base : Heap}
theorem nsc_BadEdit_init : NdefX.NScope ["self", "what", "__class__"] ["self", "what"] ["__class__"] (defScope s_BadEdit_init) := NdefX.nscope_by (by decide +kernel)
theorem ok_BadEdit_init (T : Txt K mg w) : FnOk P w K mg base CX0 1 T.a_BadEdit_init T.d_BadEdit_init ["self", "what"] (spErr T.C_BadEdit "what" okStrE) := by
  obtain ⟨y1, y2, y3, y4, y5, y6, y7, y8, y9, yA, yB, yC, yD, yE, yF, yG, yH, yI, yJ, lk, hcd, hcode, hvs, hcell, hsup, hB, hself, hop⟩ := T.e_BadEdit.fn
  rw [yJ] at lk ⊢
  refine fn_super lk hcd hcode hvs PrOk.file hcell T.e_BadEdit.ox hsup hB hself hop T.z_super PrOk.top rfl rfl nsc_BadEdit_init (by decide +kernel) (fun vs H Q E h => ?_) (fun A outer s H vs Q E hr h => ?_) (fun _ => rfl) (fun _ => rfl) (fun _ => ⟨_, rfl⟩) (fun _ => rfl)
  · obtain ⟨x, v, rfl, _⟩ := h
    rfl
  obtain ⟨x, v, rfl, hx, hv, k⟩ := h
  refine ⟨_, _, x, (pa_cons (pe_joined (PJ.cons pe_str (PJ.cons (pe_fmt (pv 1)) PJ.nil))) pa_nil), (pss_one (ps_ost (pv 0) (pv 1))), rfl, hx, ?_⟩
  obtain ⟨y, rfl, hy⟩ := hv
  refine ⟨_, rfl, by first | decide +kernel | exact okStr_len _ hy (by decide +kernel), ⟨_, rfl, .inl ⟨y, rfl, small_le (Nat.le_trans hy (by decide)), _, rfl, okStr_len _ hy (by decide +kernel), ⟨by show 1 ≤ 1000; decide, hx, ?_⟩⟩⟩⟩
  refine ⟨_, rfl, _, rfl, x, T.C_BadEdit, rfl, T.e_BadEdit.ox, T.e_BadEdit.no, .inl ⟨hx, k⟩⟩
/-! ### Game.__init__ -/
def LsT (H : Hp) (a : Addr) (xs : List V) : Prop := H a = some (.lst xs) ∨ H a = some (.tup xs)
theorem LsT.but {H H' : Hp} {a p : Addr} {xs : List V} (h : LsT H a xs) (b : But p H H') (n : a ≠ p) : LsT H' a xs := h.imp (b _ _ n) (b _ _ n)
theorem LsT.ne {H : Hp} {a x C dx : Addr} {xs : List V} {fs : List (Str × V)} (h : LsT H a xs) (hx : H x = some (.ins C dx fs)) : a ≠ x := fun z => by
  rcases h with h | h <;> rw [z, hx] at h <;> cases h
def sp_Game_init (T : Txt K mg w) : Sp := fun vs H Q _ => ∃ (x dx o1 u1 r1 : Addr) (ov uv rv : List V) (os : List (Str × Bool)) (us : List (Str × Int)) (rs : List (Str × List St)), vs = [.ref x, .ref o1, .ref u1, .ref r1] ∧ H x = some (.ins T.C_Game dx []) ∧ LsT H o1 ov ∧ Paired (OptV H) ov os ∧ os.length ≤ 100 ∧ LsT H u1 uv ∧ Paired (VarV H) uv us ∧ us.length ≤ 100 ∧ LsT H r1 rv ∧ Paired (RndV K H) rv rs ∧ rs.length ≤ 100 ∧
  ∀ (H' : Hp), But x H H' → GameS K T.C_Game H' x os us rs → Q .non H'

theorem ok_Game_init (T : Txt K mg w) : FnOk P w K mg base CX0 1 T.a_Game_init T.d_Game_init ["self", "options", "variables", "rounds"] (sp_Game_init T) := by
  refine T.F_Game_init.ok sc_Game_init (fun vs H Q E h => ?_) (fun cdv A outer s H vs Q E hr h => ?_)
  · obtain ⟨x, dx, o1, u1, r1, ov, uv, rv, os, us, rs, rfl, _⟩ := h
    rfl
  obtain ⟨x, dx, o1, u1, r1, ov, uv, rv, os, us, rs, rfl, hx, ho, po, lo, hu, pu, lu, hr', pr, lr, q⟩ := h
  refine ⟨_, (C8.pss_cut (ps_fld (pv 0) (pe_callTy call_tuple_of (by rfl) T.z_tuple (by first | exact PySem.boot_tuple | decide +kernel) (pa_cons (pe_lc (own := [("name", 4), ("on", 5)]) (g := gTup K 2 (gCons (gName 4) (gCons (gName 5) gNil))) (tt := tYes) rfl sc_Game_init.nd (pi_either (pv 1)) (blkOk_by (N := N_Game_init) (sc := defScope s_Game_init) (by decide +kernel)) (fun _ _ _ _ _ => (by exact (pg_tup rfl (pgs_cons (pg_name (i := 4) sc_Game_init.nd rfl (by first | exact Or.inl rfl | exact Or.inr rfl)) (pgs_cons (pg_name (i := 5) sc_Game_init.nd rfl (by first | exact Or.inl rfl | exact Or.inr rfl)) pgs_nil))))) (fun _ _ _ _ _ => pts_nil) (fun _ _ _ _ _ => (by exact (pe_tup (pa_cons (pv 4) (pa_cons (pv 5) pa_nil)))))) pa_nil)) rfl)
      (C8.pss_cut (ps_fld (pv 0) (pe_callTy call_tuple_of (by rfl) T.z_tuple (by first | exact PySem.boot_tuple | decide +kernel) (pa_cons (pe_lc (own := [("name", 4), ("size", 6)]) (g := gTup K 2 (gCons (gName 4) (gCons (gName 6) gNil))) (tt := tYes) rfl sc_Game_init.nd (pi_either (pv 2)) (blkOk_by (N := N_Game_init) (sc := defScope s_Game_init) (by decide +kernel)) (fun _ _ _ _ _ => (by exact (pg_tup rfl (pgs_cons (pg_name (i := 4) sc_Game_init.nd rfl (by first | exact Or.inl rfl | exact Or.inr rfl)) (pgs_cons (pg_name (i := 6) sc_Game_init.nd rfl (by first | exact Or.inl rfl | exact Or.inr rfl)) pgs_nil))))) (fun _ _ _ _ _ => pts_nil) (fun _ _ _ _ _ => (by exact (pe_tup (pa_cons (pv 4) (pa_cons (pv 6) pa_nil)))))) pa_nil)) rfl)
      (pss_one (ps_fld (pv 0) (pe_callTy call_tuple_of (by rfl) T.z_tuple (by first | exact PySem.boot_tuple | decide +kernel) (pa_cons (pe_lc (own := [("name", 4), ("block", 7)]) (g := gTup K 2 (gCons (gName 4) (gCons (gName 7) gNil))) (tt := tYes) rfl sc_Game_init.nd (pi_either (pv 3)) (blkOk_by (N := N_Game_init) (sc := defScope s_Game_init) (by decide +kernel)) (fun _ _ _ _ _ => (by exact (pg_tup rfl (pgs_cons (pg_name (i := 4) sc_Game_init.nd rfl (by first | exact Or.inl rfl | exact Or.inr rfl)) (pgs_cons (pg_name (i := 7) sc_Game_init.nd rfl (by first | exact Or.inl rfl | exact Or.inr rfl)) pgs_nil))))) (fun _ _ _ _ _ => pts_nil) (fun _ _ _ _ _ => (by exact (pe_tup (pa_cons (pv 4) (pa_cons (pe_callTy (show CallR _ (.type "tuple") (rTupOf K) from call_tuple_of) (by rfl) T.z_tuple (by first | exact PySem.boot_tuple | decide +kernel) (pa_cons (pv 7) pa_nil)) pa_nil)))))) pa_nil)) rfl)))), ?_⟩
  have no := ho.ne hx
  have nu := hu.ne hx
  have nr := hr'.ne hx
  refine ⟨fun σ' H' => ∃ (o : Addr) (vs : List V), σ' = [some (.ref x), some (.ref o1), some (.ref u1), some (.ref r1), none, none, none, none] ∧ But x H H' ∧ H' x = some (.ins T.C_Game dx [("options", .ref o)]) ∧ H' o = some (.tup vs) ∧ Paired (OptV H') vs os, ?_, ?_⟩
  · rcases ho with ho | ho
    · refine .inl ⟨_, rfl, o1, rfl, ⟨_, SqL.of ho⟩, fun D hD => ?_⟩
      refine lc_list (a := o1) (xs := ov) (fun i H2 => Same H H2 ∧ ∃ ws, H2 D = some (.lst ws) ∧ Paired (OptV H2) ws (os.take i)) ⟨same_upd hD, [], upd_same, .nil⟩ (fun i H2 _ h => SqL.of (h.1 _ _ ho)) (fun i v H2 hv h => ?_) (fun H2 h => ?_)
      · obtain ⟨s2, ws, e2, p2⟩ := h
        obtain ⟨t, ht, U2, rfl, hU2⟩ := pgetC po hv
        have l2 := paired_len p2
        rw [List.length_take] at l2
        refine ⟨U2, _, rfl, SqT.of (s2 _ _ hU2), rfl, _, _, rfl, _, _, rfl, rfl, ?_⟩
        refine ⟨rfl, ?_⟩
        refine ⟨_, rfl, _, rfl, by show 2 ≤ sizeLine; decide, fun U hU => ?_⟩
        have sU := same_upd (o := .tup [V.str t.1, .bl t.2]) hU
        have nU : U ≠ D := (ne_of_none e2 hU).symm
        have kU := (keepT_of sU).trans (keepT_lst (ys := ws ++ [.ref U]) (sU _ _ e2))
        refine ⟨_, sU _ _ e2, small1000 (by omega), fun c o e => ?_, _, upd_same, ?_⟩
        · rw [upd_ne (ne_of_none e hD)]
          exact sU _ _ (s2 _ _ e)
        · exact paired_take_snoc (L2.Paired.mapP p2 fun _ _ z => OptV.keep kU z) ht ⟨U, rfl, by rw [upd_ne nU]; exact upd_same⟩
      obtain ⟨s2, ws, e2, p2⟩ := h
      rw [show ov.length = os.length from paired_len po, List.take_of_length_le (Nat.le_refl _)] at p2
      refine ⟨D, _, rfl, .inl ⟨SqL.of e2, fun ca fc => ?_⟩⟩
      have s3 := same_upd (o := .tup ws) fc
      have s13 := s2.trans s3
      have x3 := s13 _ _ hx
      have nx : ca ≠ x := (ne_of_none hx (s2.free fc)).symm
      refine ⟨_, rfl, x, T.C_Game, dx, [], rfl, x3, T.cl_Game, T.n_Game_options, by show 0 < 1000; decide, ?_⟩
      refine ⟨ca, ws, rfl, fun c o n e => by rw [upd_ne n]; exact s13 _ _ e, upd_same, by rw [upd_ne nx]; exact upd_same, L2.Paired.mapP p2 fun _ _ z => OptV.keep ((keepT_of s3).trans (keepT_ins x3 but_upd)) z⟩
    · refine .inr ⟨_, rfl, o1, rfl, ⟨_, SqT.of ho⟩, fun D hD => ?_⟩
      refine lc_tup (a := o1) (xs := ov) (fun i H2 => Same H H2 ∧ ∃ ws, H2 D = some (.lst ws) ∧ Paired (OptV H2) ws (os.take i)) ⟨same_upd hD, [], upd_same, .nil⟩ (fun i H2 _ h => SqT.of (h.1 _ _ ho)) (fun i v H2 hv h => ?_) (fun H2 h => ?_)
      · obtain ⟨s2, ws, e2, p2⟩ := h
        obtain ⟨t, ht, U2, rfl, hU2⟩ := pgetC po hv
        have l2 := paired_len p2
        rw [List.length_take] at l2
        refine ⟨U2, _, rfl, SqT.of (s2 _ _ hU2), rfl, _, _, rfl, _, _, rfl, rfl, ?_⟩
        refine ⟨rfl, ?_⟩
        refine ⟨_, rfl, _, rfl, by show 2 ≤ sizeLine; decide, fun U hU => ?_⟩
        have sU := same_upd (o := .tup [V.str t.1, .bl t.2]) hU
        have nU : U ≠ D := (ne_of_none e2 hU).symm
        have kU := (keepT_of sU).trans (keepT_lst (ys := ws ++ [.ref U]) (sU _ _ e2))
        refine ⟨_, sU _ _ e2, small1000 (by omega), fun c o e => ?_, _, upd_same, ?_⟩
        · rw [upd_ne (ne_of_none e hD)]
          exact sU _ _ (s2 _ _ e)
        · exact paired_take_snoc (L2.Paired.mapP p2 fun _ _ z => OptV.keep kU z) ht ⟨U, rfl, by rw [upd_ne nU]; exact upd_same⟩
      obtain ⟨s2, ws, e2, p2⟩ := h
      rw [show ov.length = os.length from paired_len po, List.take_of_length_le (Nat.le_refl _)] at p2
      refine ⟨D, _, rfl, .inl ⟨SqL.of e2, fun ca fc => ?_⟩⟩
      have s3 := same_upd (o := .tup ws) fc
      have s13 := s2.trans s3
      have x3 := s13 _ _ hx
      have nx : ca ≠ x := (ne_of_none hx (s2.free fc)).symm
      refine ⟨_, rfl, x, T.C_Game, dx, [], rfl, x3, T.cl_Game, T.n_Game_options, by show 0 < 1000; decide, ?_⟩
      refine ⟨ca, ws, rfl, fun c o n e => by rw [upd_ne n]; exact s13 _ _ e, upd_same, by rw [upd_ne nx]; exact upd_same, L2.Paired.mapP p2 fun _ _ z => OptV.keep ((keepT_of s3).trans (keepT_ins x3 but_upd)) z⟩
  rintro σ1 H1 ⟨o, zo, rfl, b1, x1, eo, qo⟩
  have k1 := keepT_ins hx b1
  have hu1 := hu.but b1 nu
  have pu1 := L2.Paired.mapP pu fun _ _ z => VarV.keep k1 z
  refine ⟨fun σ' H' => ∃ (u : Addr) (vs : List V), σ' = [some (.ref x), some (.ref o1), some (.ref u1), some (.ref r1), none, none, none, none] ∧ But x H1 H' ∧ H' x = some (.ins T.C_Game dx [("options", .ref o), ("variables", .ref u)]) ∧ H' u = some (.tup vs) ∧ Paired (VarV H') vs us, ?_, ?_⟩
  · rcases hu1 with hu1 | hu1
    · refine .inl ⟨_, rfl, u1, rfl, ⟨_, SqL.of hu1⟩, fun D hD => ?_⟩
      refine lc_list (a := u1) (xs := uv) (fun i H2 => Same H1 H2 ∧ ∃ ws, H2 D = some (.lst ws) ∧ Paired (VarV H2) ws (us.take i)) ⟨same_upd hD, [], upd_same, .nil⟩ (fun i H2 _ h => SqL.of (h.1 _ _ hu1)) (fun i v H2 hv h => ?_) (fun H2 h => ?_)
      · obtain ⟨s2, ws, e2, p2⟩ := h
        obtain ⟨t, ht, U2, rfl, hU2⟩ := pgetC pu1 hv
        have l2 := paired_len p2
        rw [List.length_take] at l2
        refine ⟨U2, _, rfl, SqT.of (s2 _ _ hU2), rfl, _, _, rfl, _, _, rfl, rfl, ?_⟩
        refine ⟨rfl, ?_⟩
        refine ⟨_, rfl, _, rfl, by show 2 ≤ sizeLine; decide, fun U hU => ?_⟩
        have sU := same_upd (o := .tup [V.str t.1, .int t.2]) hU
        have nU : U ≠ D := (ne_of_none e2 hU).symm
        have kU := (keepT_of sU).trans (keepT_lst (ys := ws ++ [.ref U]) (sU _ _ e2))
        refine ⟨_, sU _ _ e2, small1000 (by omega), fun c o' e => ?_, _, upd_same, ?_⟩
        · rw [upd_ne (ne_of_none e hD)]
          exact sU _ _ (s2 _ _ e)
        · exact paired_take_snoc (L2.Paired.mapP p2 fun _ _ z => VarV.keep kU z) ht ⟨U, rfl, by rw [upd_ne nU]; exact upd_same⟩
      obtain ⟨s2, ws, e2, p2⟩ := h
      rw [show uv.length = us.length from paired_len pu1, List.take_of_length_le (Nat.le_refl _)] at p2
      refine ⟨D, _, rfl, .inl ⟨SqL.of e2, fun ca fc => ?_⟩⟩
      have s3 := same_upd (o := .tup ws) fc
      have s13 := s2.trans s3
      have x3 := s13 _ _ x1
      have nx : ca ≠ x := (ne_of_none x1 (s2.free fc)).symm
      refine ⟨_, rfl, x, T.C_Game, dx, [("options", .ref o)], rfl, x3, T.cl_Game, T.n_Game_variables, by show 1 < 1000; decide, ?_⟩
      rw [pf_new (show ("variables" : Str) ∉ (["options"] : List Str) by decide +kernel)]
      refine ⟨ca, ws, rfl, fun c o' n e => by rw [upd_ne n]; exact s13 _ _ e, upd_same, by rw [upd_ne nx]; exact upd_same, L2.Paired.mapP p2 fun _ _ z => VarV.keep ((keepT_of s3).trans (keepT_ins x3 but_upd)) z⟩
    · refine .inr ⟨_, rfl, u1, rfl, ⟨_, SqT.of hu1⟩, fun D hD => ?_⟩
      refine lc_tup (a := u1) (xs := uv) (fun i H2 => Same H1 H2 ∧ ∃ ws, H2 D = some (.lst ws) ∧ Paired (VarV H2) ws (us.take i)) ⟨same_upd hD, [], upd_same, .nil⟩ (fun i H2 _ h => SqT.of (h.1 _ _ hu1)) (fun i v H2 hv h => ?_) (fun H2 h => ?_)
      · obtain ⟨s2, ws, e2, p2⟩ := h
        obtain ⟨t, ht, U2, rfl, hU2⟩ := pgetC pu1 hv
        have l2 := paired_len p2
        rw [List.length_take] at l2
        refine ⟨U2, _, rfl, SqT.of (s2 _ _ hU2), rfl, _, _, rfl, _, _, rfl, rfl, ?_⟩
        refine ⟨rfl, ?_⟩
        refine ⟨_, rfl, _, rfl, by show 2 ≤ sizeLine; decide, fun U hU => ?_⟩
        have sU := same_upd (o := .tup [V.str t.1, .int t.2]) hU
        have nU : U ≠ D := (ne_of_none e2 hU).symm
        have kU := (keepT_of sU).trans (keepT_lst (ys := ws ++ [.ref U]) (sU _ _ e2))
        refine ⟨_, sU _ _ e2, small1000 (by omega), fun c o' e => ?_, _, upd_same, ?_⟩
        · rw [upd_ne (ne_of_none e hD)]
          exact sU _ _ (s2 _ _ e)
        · exact paired_take_snoc (L2.Paired.mapP p2 fun _ _ z => VarV.keep kU z) ht ⟨U, rfl, by rw [upd_ne nU]; exact upd_same⟩
      obtain ⟨s2, ws, e2, p2⟩ := h
      rw [show uv.length = us.length from paired_len pu1, List.take_of_length_le (Nat.le_refl _)] at p2
      refine ⟨D, _, rfl, .inl ⟨SqL.of e2, fun ca fc => ?_⟩⟩
      have s3 := same_upd (o := .tup ws) fc
      have s13 := s2.trans s3
      have x3 := s13 _ _ x1
      have nx : ca ≠ x := (ne_of_none x1 (s2.free fc)).symm
      refine ⟨_, rfl, x, T.C_Game, dx, [("options", .ref o)], rfl, x3, T.cl_Game, T.n_Game_variables, by show 1 < 1000; decide, ?_⟩
      rw [pf_new (show ("variables" : Str) ∉ (["options"] : List Str) by decide +kernel)]
      refine ⟨ca, ws, rfl, fun c o' n e => by rw [upd_ne n]; exact s13 _ _ e, upd_same, by rw [upd_ne nx]; exact upd_same, L2.Paired.mapP p2 fun _ _ z => VarV.keep ((keepT_of s3).trans (keepT_ins x3 but_upd)) z⟩
  rintro σ2 H2 ⟨u, zu, rfl, b2, x2, eu, qu⟩
  have k2 := keepT_ins x1 b2
  have hr2 := (hr'.but b1 nr).but b2 nr
  have pr2 := L2.Paired.mapP pr fun _ _ z => RndV.keep (k1.trans k2) z
  have eo2 := k2 _ _ eo
  have qo2 := L2.Paired.mapP qo fun _ _ z => OptV.keep k2 z
  rcases hr2 with hr2 | hr2
  · refine .inl ⟨_, rfl, r1, rfl, ⟨_, SqL.of hr2⟩, fun D hD => ?_⟩
    refine lc_list (a := r1) (xs := rv) (fun i H3 => Same H2 H3 ∧ ∃ ws, H3 D = some (.lst ws) ∧ Paired (RndV K H3) ws (rs.take i)) ⟨same_upd hD, [], upd_same, .nil⟩ (fun i H3 _ h => SqL.of (h.1 _ _ hr2)) (fun i v H3 hv h => ?_) (fun H3 h => ?_)
    · obtain ⟨s2, ws, e2, p2⟩ := h
      obtain ⟨t, ht, U2, b, zs, rfl, hU2, hb, hbv⟩ := pgetC pr2 hv
      have l2 := paired_len p2
      rw [List.length_take] at l2
      refine ⟨U2, _, rfl, SqT.of (s2 _ _ hU2), rfl, _, _, rfl, _, _, rfl, rfl, ?_⟩
      refine ⟨rfl, ?_⟩
      refine ⟨_, rfl, _, rfl, b, zs, rfl, .inr ⟨SqT.of (s2 _ _ hb), ?_⟩⟩
      refine ⟨by show 2 ≤ sizeLine; decide, fun U hU => ?_⟩
      have sU := same_upd (o := .tup [V.str t.1, .ref b]) hU
      have nU : U ≠ D := (ne_of_none e2 hU).symm
      have kW := keepT_lst (ys := ws ++ [.ref U]) (sU _ _ e2)
      have kU := (keepT_of sU).trans kW
      have kA := (keepT_of s2).trans kU
      refine ⟨_, sU _ _ e2, small1000 (by omega), fun c o' e => ?_, _, upd_same, ?_⟩
      · rw [upd_ne (ne_of_none e hD)]
        exact sU _ _ (s2 _ _ e)
      · exact paired_take_snoc (L2.Paired.mapP p2 fun _ _ z => RndV.keep kU z) ht ⟨U, b, zs, rfl, kW _ _ upd_same, kA _ _ hb, hbv.keep kA⟩
    obtain ⟨s2, ws, e2, p2⟩ := h
    rw [show rv.length = rs.length from paired_len pr2, List.take_of_length_le (Nat.le_refl _)] at p2
    refine ⟨D, _, rfl, .inl ⟨SqL.of e2, fun ca fc => ?_⟩⟩
    have s3 := same_upd (o := .tup ws) fc
    have s13 := s2.trans s3
    have x3 := s13 _ _ x2
    have nx : ca ≠ x := (ne_of_none x2 (s2.free fc)).symm
    refine ⟨_, rfl, x, T.C_Game, dx, [("options", .ref o), ("variables", .ref u)], rfl, x3, T.cl_Game, T.n_Game_rounds, by show 2 < 1000; decide, ?_⟩
    rw [pf_new (show ("rounds" : Str) ∉ (["options", "variables"] : List Str) by decide +kernel)]
    generalize eH9 : upd _ x _ = H9
    have b9 : But x _ H9 := eH9 ▸ but_upd
    have x9 : H9 x = some (.ins T.C_Game dx ([("options", .ref o), ("variables", .ref u), ("rounds", .ref ca)] : List (Str × V))) := eH9 ▸ upd_same
    clear eH9
    have k9 := keepT_ins x3 b9
    have kA := (keepT_of s13).trans k9
    exact q H9 (fun c o' n e => b9 _ _ n (s13 _ _ (b2 _ _ n (b1 _ _ n e)))) ⟨dx, o, u, ca, zo, zu, ws, x9, kA _ _ eo2, L2.Paired.mapP qo2 fun _ _ z => OptV.keep kA z, kA _ _ eu, L2.Paired.mapP qu fun _ _ z => VarV.keep kA z, k9 _ _ upd_same, L2.Paired.mapP p2 fun _ _ z => RndV.keep ((keepT_of s3).trans k9) z⟩
  · refine .inr ⟨_, rfl, r1, rfl, ⟨_, SqT.of hr2⟩, fun D hD => ?_⟩
    refine lc_tup (a := r1) (xs := rv) (fun i H3 => Same H2 H3 ∧ ∃ ws, H3 D = some (.lst ws) ∧ Paired (RndV K H3) ws (rs.take i)) ⟨same_upd hD, [], upd_same, .nil⟩ (fun i H3 _ h => SqT.of (h.1 _ _ hr2)) (fun i v H3 hv h => ?_) (fun H3 h => ?_)
    · obtain ⟨s2, ws, e2, p2⟩ := h
      obtain ⟨t, ht, U2, b, zs, rfl, hU2, hb, hbv⟩ := pgetC pr2 hv
      have l2 := paired_len p2
      rw [List.length_take] at l2
      refine ⟨U2, _, rfl, SqT.of (s2 _ _ hU2), rfl, _, _, rfl, _, _, rfl, rfl, ?_⟩
      refine ⟨rfl, ?_⟩
      refine ⟨_, rfl, _, rfl, b, zs, rfl, .inr ⟨SqT.of (s2 _ _ hb), ?_⟩⟩
      refine ⟨by show 2 ≤ sizeLine; decide, fun U hU => ?_⟩
      have sU := same_upd (o := .tup [V.str t.1, .ref b]) hU
      have nU : U ≠ D := (ne_of_none e2 hU).symm
      have kW := keepT_lst (ys := ws ++ [.ref U]) (sU _ _ e2)
      have kU := (keepT_of sU).trans kW
      have kA := (keepT_of s2).trans kU
      refine ⟨_, sU _ _ e2, small1000 (by omega), fun c o' e => ?_, _, upd_same, ?_⟩
      · rw [upd_ne (ne_of_none e hD)]
        exact sU _ _ (s2 _ _ e)
      · exact paired_take_snoc (L2.Paired.mapP p2 fun _ _ z => RndV.keep kU z) ht ⟨U, b, zs, rfl, kW _ _ upd_same, kA _ _ hb, hbv.keep kA⟩
    obtain ⟨s2, ws, e2, p2⟩ := h
    rw [show rv.length = rs.length from paired_len pr2, List.take_of_length_le (Nat.le_refl _)] at p2
    refine ⟨D, _, rfl, .inl ⟨SqL.of e2, fun ca fc => ?_⟩⟩
    have s3 := same_upd (o := .tup ws) fc
    have s13 := s2.trans s3
    have x3 := s13 _ _ x2
    have nx : ca ≠ x := (ne_of_none x2 (s2.free fc)).symm
    refine ⟨_, rfl, x, T.C_Game, dx, [("options", .ref o), ("variables", .ref u)], rfl, x3, T.cl_Game, T.n_Game_rounds, by show 2 < 1000; decide, ?_⟩
    rw [pf_new (show ("rounds" : Str) ∉ (["options", "variables"] : List Str) by decide +kernel)]
    generalize eH9 : upd _ x _ = H9
    have b9 : But x _ H9 := eH9 ▸ but_upd
    have x9 : H9 x = some (.ins T.C_Game dx ([("options", .ref o), ("variables", .ref u), ("rounds", .ref ca)] : List (Str × V))) := eH9 ▸ upd_same
    clear eH9
    have k9 := keepT_ins x3 b9
    have kA := (keepT_of s13).trans k9
    exact q H9 (fun c o' n e => b9 _ _ n (s13 _ _ (b2 _ _ n (b1 _ _ n e)))) ⟨dx, o, u, ca, zo, zu, ws, x9, kA _ _ eo2, L2.Paired.mapP qo2 fun _ _ z => OptV.keep kA z, kA _ _ eu, L2.Paired.mapP qu fun _ _ z => VarV.keep kA z, k9 _ _ upd_same, L2.Paired.mapP p2 fun _ _ z => RndV.keep ((keepT_of s3).trans k9) z⟩
/-! ### Numbering.__init__ -/
def NmgV (C : Addr) (H : Hp) (x dx : Addr) (k : Nat) : Prop := H x = some (.ins C dx [("_count", .int ((k : Nat) : Int))])
theorem nmgNd {a : V} : (([("_count", a)] : List (Str × V)).map (·.1)).Nodup := by
  show (["_count"] : List Str).Nodup
  decide
def sp_Numbering_init (T : Txt K mg w) : Sp := fun vs H Q _ => ∃ (x dx : Addr), vs = [.ref x] ∧ H x = some (.ins T.C_Numbering dx []) ∧ ∀ H', But x H H' → NmgV T.C_Numbering H' x dx 0 → Q .non H'

theorem ok_Numbering_init (T : Txt K mg w) : FnOk P w K mg base CX0 1 T.a_Numbering_init T.d_Numbering_init ["self"] (sp_Numbering_init T) := by
  refine T.F_Numbering_init.ok sc_Numbering_init (fun vs H Q E h => ?_) (fun cdv A outer s H vs Q E hr h => ?_)
  · obtain ⟨x, dx, rfl, _⟩ := h
    rfl
  obtain ⟨x, dx, rfl, hx, q⟩ := h
  refine ⟨_, (pss_one (ps_fld (pv 0) pe_int rfl)), ?_⟩
  refine ⟨_, rfl, x, T.C_Numbering, dx, [], rfl, hx, T.cl_Numbering, T.n_Numbering__count, by show 0 < 1000; decide, ?_⟩
  exact q _ but_upd upd_same
/-! ### Game.__eq__ -/
theorem gmNd {o u r : Addr} : (([("options", .ref o), ("variables", .ref u), ("rounds", .ref r)] : List (Str × V)).map (·.1)).Nodup := by
  show (["options", "variables", "rounds"] : List Str).Nodup
  decide +kernel
def optD (q : Str × Bool) : PyData := .tuple [.str q.1, .bool q.2]
def varD (q : Str × Int) : PyData := .tuple [.str q.1, .int q.2]
def rndD (q : Str × List St) : PyData := .tuple [.str q.1, .tuple (datL q.2)]
theorem dp_map {α : Type} {K : PySem.W.Frag} {H : Hp} {R : V → α → Prop} {f : α → PyData} (h : ∀ v x, R v x → Dp K H v (f x)) {vs : List V} {xs : List α} (p : Paired R vs xs) : DpAll K H vs (xs.map f) := by
  induction p with
  | nil => exact .nil
  | cons r _ ih => exact .cons (h _ _ r) ih
theorem OptV.dp {K : PySem.W.Frag} {H : Hp} {v : V} {q : Str × Bool} (h : OptV H v q) : Dp K H v (optD q) := by
  obtain ⟨a, rfl, t⟩ := h
  exact .tup (SqT.of t) (.cons (.str _) (.cons (.bl _) .nil))
theorem VarV.dp {K : PySem.W.Frag} {H : Hp} {v : V} {q : Str × Int} (h : VarV H v q) : Dp K H v (varD q) := by
  obtain ⟨a, rfl, t⟩ := h
  exact .tup (SqT.of t) (.cons (.str _) (.cons (.int _) .nil))
theorem RndV.dp {K : PySem.W.Frag} {H : Hp} {v : V} {q : Str × List St} (h : RndV K H v q) : Dp K H v (rndD q) := by
  obtain ⟨a, b, ws, rfl, t, u, w⟩ := h
  exact .tup (SqT.of t) (.cons (.str _) (.cons (.tup (SqT.of u) w.dp) .nil))
theorem lay_map {α : Type} {f : α → PyData} : ∀ {xs : List α}, (∀ x ∈ xs, (f x).canLay0 = true) → PyData.canLayAll0 (xs.map f) = true
  | [], _ => by simp [PyData.canLayAll0]
  | x :: r, h => by
    have := lay_map (f := f) (xs := r) fun y m => h y (List.mem_cons_of_mem _ m)
    simp [PyData.canLayAll0, h x List.mem_cons_self, this]
theorem dep_map {α : Type} {f : α → PyData} {n : Nat} : ∀ {xs : List α}, (∀ x ∈ xs, (f x).depth ≤ n) → PyData.depthAll (xs.map f) ≤ n
  | [], _ => by simp [PyData.depthAll]
  | x :: r, h => by
    have := dep_map (f := f) (n := n) (xs := r) fun y m => h y (List.mem_cons_of_mem _ m)
    have := h x List.mem_cons_self
    simp only [List.map_cons, PyData.depthAll]
    omega
theorem sh_tuple {α : Type} {f : α → PyData} {n : Nat} {xs : List α} (h : ∀ x ∈ xs, (f x).canLay0 = true ∧ (f x).depth ≤ n) (n60 : n ≤ 60) : SeqAt.shaped (.tuple (xs.map f)) = true := by
  unfold SeqAt.shaped
  rw [Bool.and_eq_true]
  refine ⟨?_, decide_eq_true ?_⟩
  · unfold PyData.canLay0
    exact lay_map fun x m => (h x m).1
  · have := dep_map (f := f) (n := n) fun x m => (h x m).2
    unfold PyData.depth
    omega
/-- names that can be laid, blocks that are well-formed -/
structure GLay (os : List (Str × Bool)) (us : List (Str × Int)) (rs : List (Str × List St)) : Prop where
  o : ∀ q ∈ os, PyData.strOk q.1 = true
  u : ∀ q ∈ us, PyData.strOk q.1 = true
  r : ∀ q ∈ rs, PyData.strOk q.1 = true ∧ PyData.canLayAll0 (datL q.2) = true ∧ PyData.depthAll (datL q.2) ≤ 30
theorem GLay.so {os : List (Str × Bool)} {us : List (Str × Int)} {rs : List (Str × List St)} (h : GLay os us rs) : SeqAt.shaped (.tuple (os.map optD)) = true := sh_tuple (n := 1) (fun q m => by
  have := h.o q m
  simp [optD, PyData.canLay0, PyData.canLayAll0, PyData.depth, PyData.depthAll, this]) (by decide)
theorem GLay.su {os : List (Str × Bool)} {us : List (Str × Int)} {rs : List (Str × List St)} (h : GLay os us rs) : SeqAt.shaped (.tuple (us.map varD)) = true := sh_tuple (n := 1) (fun q m => by
  have := h.u q m
  simp [varD, PyData.canLay0, PyData.canLayAll0, PyData.depth, PyData.depthAll, this]) (by decide)
theorem GLay.sr {os : List (Str × Bool)} {us : List (Str × Int)} {rs : List (Str × List St)} (h : GLay os us rs) : SeqAt.shaped (.tuple (rs.map rndD)) = true := sh_tuple (n := 40) (fun q m => by
  obtain ⟨h1, h2, h3⟩ := h.r q m
  refine ⟨by simp [rndD, PyData.canLay0, PyData.canLayAll0, h1, h2], ?_⟩
  simp only [rndD, PyData.depth, PyData.depthAll]
  omega) (by decide)
theorem GOk.lay {os : List (Str × Bool)} {us : List (Str × Int)} {rs : List (Str × List St)} (h : GOk os us rs) : GLay os us rs := by
  have ho : ∀ x ∈ os.map (·.1), PyData.strOk x = true := fun x m => (h.o.1 x m).1.ok
  have hu : ∀ x ∈ us.map (·.1), PyData.strOk x = true := fun x m => (h.u.1 x m).1.ok
  refine ⟨fun q m => ho _ (List.mem_map.mpr ⟨q, m, rfl⟩), fun q m => hu _ (List.mem_map.mpr ⟨q, m, rfl⟩), fun q m => ?_⟩
  obtain ⟨k, k', g, lv⟩ := gr_mem h.g m
  obtain ⟨w, _⟩ := bl_wf _ _ _ g
  refine ⟨(h.r.1 _ (List.mem_map.mpr ⟨q, m, rfl⟩)).1.ok, ldat_lay hu ho _ w, ?_⟩
  have := ldat_depth _ w
  omega
theorem sh_refl {d : PyData} (h : SeqAt.shaped d = true) : PyData.eqv d d = true := SeqAt.eqv_refl _ (SeqAt.canLay_of_shaped h)
theorem map_inj {α : Type} {f : α → PyData} : ∀ {xs ys : List α}, (∀ x ∈ xs, ∀ y ∈ ys, PyData.eqv (f x) (f y) = true → x = y) → PyData.eqvAll (xs.map f) (ys.map f) = true → xs = ys
  | [], [], _, _ => rfl
  | [], _ :: _, _, h => by rw [List.map_nil, List.map_cons, eqv_nc] at h; cases h
  | _ :: _, [], _, h => by rw [List.map_nil, List.map_cons, eqv_cn] at h; cases h
  | x :: xs, y :: ys, k, h => by
    rw [List.map_cons, List.map_cons, eqv_c, Bool.and_eq_true] at h
    rw [k x List.mem_cons_self y List.mem_cons_self h.1, map_inj (fun a ma b mb => k a (List.mem_cons_of_mem _ ma) b (List.mem_cons_of_mem _ mb)) h.2]
theorem optD_inj {a b : Str × Bool} (h : PyData.eqv (optD a) (optD b) = true) : a = b := by
  obtain ⟨x, p⟩ := a
  obtain ⟨y, q⟩ := b
  have e : ∀ p q : Bool, PyData.eqv (.bool p) (.bool q) = (p == q) := fun p q => by simp [PyData.eqv]
  simp only [optD, eqv_t, eqv_c, eqv_s, eqv_nn, e, Bool.and_eq_true, beq_iff_eq, and_true] at h
  rw [h.1, h.2]
theorem varD_inj {a b : Str × Int} (h : PyData.eqv (varD a) (varD b) = true) : a = b := by
  obtain ⟨x, p⟩ := a
  obtain ⟨y, q⟩ := b
  simp only [varD, eqv_t, eqv_c, eqv_s, eqv_i, eqv_nn, Bool.and_eq_true, beq_iff_eq, and_true] at h
  rw [h.1, h.2]
theorem rndD_inj {ns ps : List Str} {a b : Str × List St} (wa : WfL ns ps a.2) (wb : WfL ns ps b.2) (h : PyData.eqv (rndD a) (rndD b) = true) : a = b := by
  obtain ⟨x, p⟩ := a
  obtain ⟨y, q⟩ := b
  simp only [rndD, eqv_t, eqv_c, eqv_s, eqv_nn, Bool.and_eq_true, beq_iff_eq, and_true] at h
  rw [h.1, ldat_eqv p q wa wb h.2]
theorem ex_mono {ns ps ns' ps' : List Str} (h1 : ∀ x ∈ ns, x ∈ ns') (h2 : ∀ x ∈ ps, x ∈ ps') : ∀ e : Ex, e.Wf ns ps → e.Wf ns' ps'
  | .num _, h => h
  | .var x, h => h1 x h
  | .long, h => h
  | .view e, h => ex_mono h1 h2 e h
  | .pick x a b, h => ⟨h2 x h.1, ex_mono h1 h2 a h.2.1, ex_mono h1 h2 b h.2.2⟩
  | .op s a b, h => ⟨h.1, ex_mono h1 h2 a h.2.1, ex_mono h1 h2 b h.2.2⟩
mutual
theorem st_mono {ns ps ns' ps' : List Str} (h1 : ∀ x ∈ ns, x ∈ ns') (h2 : ∀ x ∈ ps, x ∈ ps') : ∀ s : St, s.Wf ns ps → s.Wf ns' ps'
  | .set x e, h => ⟨h1 x h.1, ex_mono h1 h2 e h.2.1, h.2.2⟩
  | .ite e t f, h => ⟨⟨ex_mono h1 h2 e h.1.1, h.1.2⟩, stl_mono h1 h2 t h.2.1, stl_mono h1 h2 f h.2.2⟩
  | .whn o t f, h => ⟨h2 o h.1, stl_mono h1 h2 t h.2.1, stl_mono h1 h2 f h.2.2⟩
  | .draw x n, h => h1 x h
  | .move p x n k, h => h1 x h
  | .show p e, h => ⟨ex_mono h1 h2 e h.1, h.2⟩
  | .pay s e, h => ⟨h.1, ex_mono h1 h2 e h.2.1, h.2.2⟩
theorem stl_mono {ns ps ns' ps' : List Str} (h1 : ∀ x ∈ ns, x ∈ ns') (h2 : ∀ x ∈ ps, x ∈ ps') : ∀ ss : List St, WfL ns ps ss → WfL ns' ps' ss
  | [], _ => trivial
  | s :: r, h => ⟨st_mono h1 h2 s h.1, stl_mono h1 h2 r h.2⟩
end
theorem opts_iff (os os' : List (Str × Bool)) (h : SeqAt.shaped (.tuple (os.map optD)) = true) : PyData.eqv (.tuple (os.map optD)) (.tuple (os'.map optD)) = true ↔ os = os' :=
  ⟨fun e => map_inj (fun _ _ _ _ z => optD_inj z) (by rw [eqv_t] at e; exact e), fun e => by rw [← e]; exact sh_refl h⟩
theorem vars_iff (us us' : List (Str × Int)) (h : SeqAt.shaped (.tuple (us.map varD)) = true) : PyData.eqv (.tuple (us.map varD)) (.tuple (us'.map varD)) = true ↔ us = us' :=
  ⟨fun e => map_inj (fun _ _ _ _ z => varD_inj z) (by rw [eqv_t] at e; exact e), fun e => by rw [← e]; exact sh_refl h⟩
theorem rnds_iff {os os' : List (Str × Bool)} {us us' : List (Str × Int)} {rs rs' : List (Str × List St)} (h : GOk os us rs) (h' : GOk os' us' rs') : PyData.eqv (.tuple (rs.map rndD)) (.tuple (rs'.map rndD)) = true ↔ rs = rs' := by
  refine ⟨fun e => map_inj (fun x mx y my z => ?_) (by rw [eqv_t] at e; exact e), fun e => by rw [← e]; exact sh_refl h.lay.sr⟩
  obtain ⟨_, _, g, _⟩ := gr_mem h.g mx
  obtain ⟨_, _, g', _⟩ := gr_mem h'.g my
  exact rndD_inj (ns := us.map (·.1) ++ us'.map (·.1)) (ps := os.map (·.1) ++ os'.map (·.1)) (stl_mono (fun _ => List.mem_append_left _) (fun _ => List.mem_append_left _) _ (bl_wf _ _ _ g).1) (stl_mono (fun _ => List.mem_append_right _) (fun _ => List.mem_append_right _) _ (bl_wf _ _ _ g').1) z
def sp_Game_eq (T : Txt K mg w) : Sp := fun vs H Q _ => ∃ (a b : Addr) (os os' : List (Str × Bool)) (us us' : List (Str × Int)) (rs rs' : List (Str × List St)), vs = [.ref a, .ref b] ∧ GameS K T.C_Game H a os us rs ∧ GameS K T.C_Game H b os' us' rs' ∧ GOk os us rs ∧ GOk os' us' rs' ∧ ∀ c : Bool, (c = true ↔ (os = os' ∧ us = us' ∧ rs = rs')) → Q (.bl c) H

theorem ok_Game_eq (T : Txt K mg w) : FnOk P w K mg base CX0 1 T.a_Game_eq T.d_Game_eq ["self", "other"] (sp_Game_eq T) := by
  refine T.F_Game_eq.ok sc_Game_eq (fun vs H Q E h => ?_) (fun cdv A outer s H vs Q E hr h => ?_)
  · obtain ⟨a, b, os, os', us, us', rs, rs', rfl, _⟩ := h
    rfl
  obtain ⟨a, b, os, os', us, us', rs, rs', rfl, ⟨dx, o1, u1, r1, ov1, uv1, rv1, ha, ho1, po1, hu1, pu1, hr1, pr1⟩, ⟨dy, o2, u2, r2, ov2, uv2, rv2, hb, ho2, po2, hu2, pu2, hr2, pr2⟩, hk, hk', q⟩ := h
  have hl := hk.lay
  have hl' := hk'.lay
  have fls : ∀ {b : Bool}, ¬ b = true → b = false := fun {b} h => by cases b; rfl; exact absurd rfl h
  refine ⟨_, (pss_one (ps_ret (pe_and (pe_callB (C8.call_isC T.ic_Game) (by rfl) T.z_isinstance (by first | exact PySem.boot_isinstance | decide +kernel) (pa_cons (pv 1) (pa_cons (pe_glob (v := .ref T.C_Game) (by rfl) T.m_Game rfl) pa_nil))) (pe_and (pe_cmpR (op_eqD (eq_room hr)) (pe_fld (pv 0) rfl) (pe_fld (pv 1) rfl) (nomark _)) (pe_and (pe_cmpR (op_eqD (eq_room hr)) (pe_fld (pv 0) rfl) (pe_fld (pv 1) rfl) (nomark _)) (pe_one (pe_cmpR (op_eqD (eq_room hr)) (pe_fld (pv 0) rfl) (pe_fld (pv 1) rfl) (nomark _)))))))), ?_⟩
  refine ⟨_, rfl, b, dy, _, rfl, hb, _, rfl, iteT ?_⟩
  refine ⟨_, rfl, a, T.C_Game, dx, _, _, rfl, ha, T.cl_Game, T.n_Game_options, lk_ix gmNd 0 rfl, _, rfl, b, T.C_Game, dy, _, _, rfl, hb, T.cl_Game, T.n_Game_options, lk_ix gmNd 0 rfl, ?_⟩
  refine ⟨.tuple (os.map optD), .tuple (os'.map optD), .tup (SqT.of ho1) (dp_map (fun _ _ y => y.dp) po1), .tup (SqT.of ho2) (dp_map (fun _ _ y => y.dp) po2), hl.so, hl'.so, ?_⟩
  by_cases z1 : os = os'
  rotate_left
  · rw [fls (fun e => z1 ((opts_iff os os' hl.so).mp e))]
    exact ⟨_, rfl, iteF (q false ⟨(fun e => by cases e), (fun e => absurd e.1 z1)⟩)⟩
  rw [(opts_iff os os' hl.so).mpr z1]
  refine ⟨_, rfl, iteT ?_⟩
  refine ⟨_, rfl, a, T.C_Game, dx, _, _, rfl, ha, T.cl_Game, T.n_Game_variables, lk_ix gmNd 1 rfl, _, rfl, b, T.C_Game, dy, _, _, rfl, hb, T.cl_Game, T.n_Game_variables, lk_ix gmNd 1 rfl, ?_⟩
  refine ⟨.tuple (us.map varD), .tuple (us'.map varD), .tup (SqT.of hu1) (dp_map (fun _ _ y => y.dp) pu1), .tup (SqT.of hu2) (dp_map (fun _ _ y => y.dp) pu2), hl.su, hl'.su, ?_⟩
  by_cases z2 : us = us'
  rotate_left
  · rw [fls (fun e => z2 ((vars_iff us us' hl.su).mp e))]
    exact ⟨_, rfl, iteF (q false ⟨(fun e => by cases e), (fun e => absurd e.2.1 z2)⟩)⟩
  rw [(vars_iff us us' hl.su).mpr z2]
  refine ⟨_, rfl, iteT ?_⟩
  refine ⟨_, rfl, a, T.C_Game, dx, _, _, rfl, ha, T.cl_Game, T.n_Game_rounds, lk_ix gmNd 2 rfl, _, rfl, b, T.C_Game, dy, _, _, rfl, hb, T.cl_Game, T.n_Game_rounds, lk_ix gmNd 2 rfl, ?_⟩
  refine ⟨.tuple (rs.map rndD), .tuple (rs'.map rndD), .tup (SqT.of hr1) (dp_map (fun _ _ y => y.dp) pr1), .tup (SqT.of hr2) (dp_map (fun _ _ y => y.dp) pr2), hl.sr, hl'.sr, ?_⟩
  by_cases z3 : rs = rs'
  rotate_left
  · rw [fls (fun e => z3 ((rnds_iff hk hk').mp e))]
    exact q false ⟨(fun e => by cases e), (fun e => absurd e.2.2 z3)⟩
  rw [(rnds_iff hk hk').mpr z3]
  exact q true ⟨fun _ => ⟨z1, z2, z3⟩, fun _ => rfl⟩
/-! ### _swapped_statement -/
def sp_swapped_block (T : Txt K mg w) (n : Nat) : Sp := fun vs H Q _ => ∃ (b : Addr) (ws : List V) (ss : List St) (ns ps : List Str), vs = [.ref b] ∧ TpK K H b ws ∧ Bv K H ws ss ∧ WfL ns ps ss ∧ NbL ss ∧ lvL ss + 1 ≤ n ∧ n ≤ 10 ∧ szL ss ≤ 900 ∧
  ∀ (p : Addr) (pv : List V) (H' : Hp), Same H H' → H p = none → H' p = some (.tup pv) → Bv K H' pv (swpL ss) → Q (.ref p) H'
theorem no_swapped_block (T : Txt K mg w) : ∀ vs H Q E, ¬ sp_swapped_block T 0 vs H Q E := fun vs H Q E ⟨_, _, _, _, _, _, _, _, _, _, h, _⟩ => by omega
def sp_swapped_statement (T : Txt K mg w) (n : Nat) : Sp := fun vs H Q _ => ∃ (v : V) (s : St) (ns ps : List Str), vs = [v] ∧ Sv K H v s ∧ s.Wf ns ps ∧ s.Nb ∧ s.lv ≤ n ∧ n ≤ 9 ∧ s.sz ≤ 900 ∧
  ∀ (v' : V) (H' : Hp), Same H H' → Sv K H' v' s.swp → Q v' H'
theorem Bv.take {K : PySem.W.Frag} {H : Hp} : ∀ {vs : List V} {ss : List St}, Bv K H vs ss → ∀ i, Bv K H (vs.take i) (ss.take i)
  | _, _, .nil, i => by rw [List.take_nil, List.take_nil]; exact .nil
  | _, _, .cons h t, 0 => .nil
  | _, _, .cons h t, i + 1 => .cons h (Bv.take t i)
theorem kd_ne : ("set" : Str) ∉ (["if", "when"] : List Str) ∧ ("draw" : Str) ∉ (["if", "when"] : List Str) ∧ ("move" : Str) ∉ (["if", "when"] : List Str) ∧ ("show" : Str) ∉ (["if", "when"] : List Str) ∧ ("pay" : Str) ∉ (["if", "when"] : List Str) ∧ ("take" : Str) ∉ (["if", "when"] : List Str) ∧
    ("set" : Str) ∉ (["move", "show"] : List Str) ∧ ("draw" : Str) ∉ (["move", "show"] : List Str) ∧ ("pay" : Str) ∉ (["move", "show"] : List Str) ∧ ("take" : Str) ∉ (["move", "show"] : List Str) := by decide +kernel


theorem ok_swapped_statement (T : Txt K mg w) {n : Nat} (G : FnOk P w K mg base CX0 (0 + 2 * n) T.a_swapped_block T.d_swapped_block ["block"] (sp_swapped_block T n)) : FnOk P w K mg base CX0 (0 + 2 * n + 1) T.a_swapped_statement T.d_swapped_statement ["statement"] (sp_swapped_statement T n) := by
  refine T.F_swapped_statement.ok sc_swapped_statement (fun vs H Q E h => ?_) (fun cdv A outer s0 H vs Q E hr h => ?_)
  · obtain ⟨v, s, ns, ps, rfl, _⟩ := h
    rfl
  obtain ⟨v, s, ns, ps, rfl, hs, hw, hn, ln, n9, hz, q⟩ := h
  refine ⟨_, (pss_cons (ps_set (i := 1) sc_swapped_statement.nd rfl (by first | exact Or.inl rfl | exact Or.inr rfl) (pe_ix ix_tup (pv 0) pe_int (fun _ _ => rfl)))
      (pss_cons (ps_if (pt_cmpR op_in_seq (pv 1) (pe_tup (pa_cons pe_str (pa_cons pe_str pa_nil))) (by with_unfolding_all rfl)) (pss_one (ps_ret (pe_tup (pa_cons (pv 1) (pa_cons (pe_ix ix_tup (pv 0) pe_int (fun _ _ => rfl)) (pa_cons (pe_call G (hr.mono (by omega)) (by rfl) T.m_swapped_block T.F_swapped_block.kp T.b_swapped_block .nil pass0 (pa_cons (pe_ix ix_tup (pv 0) pe_int (fun _ _ => rfl)) pa_nil)) (pa_cons (pe_call G (hr.mono (by omega)) (by rfl) T.m_swapped_block T.F_swapped_block.kp T.b_swapped_block .nil pass0 (pa_cons (pe_ix ix_tup (pv 0) pe_int (fun _ _ => rfl)) pa_nil)) pa_nil))))))) pss_nil)
      (pss_cons (ps_if (pt_cmpR op_in_seq (pv 1) (pe_tup (pa_cons pe_str (pa_cons pe_str pa_nil))) (by with_unfolding_all rfl)) (pss_one (ps_ret (pe_tup (pa_cons (pv 1) (pa_cons (pe_ix ix_tup (pe_glob (v := .ref T.A_OTHER_SEATS) (by rfl) T.g_OTHER_SEATS rfl) (pe_ix ix_tup (pv 0) pe_int (fun _ _ => rfl)) (fun _ _ => rfl)) (StX.pa_star (pe_slice sl_tup (pv 0) (po_some pe_int) po_none) pa_nil)))))) pss_nil)
      (pss_one (ps_ret (pe_tup (pa_cons (pe_kget2 (pe_glob (v := .ref T.A_OTHER_PAYMENTS) (by rfl) T.g_OTHER_PAYMENTS rfl) (pv 1) (pv 1) ⟨by rfl, by rfl, by rfl, by rfl⟩) (StX.pa_star (pe_slice sl_tup (pv 0) (po_some pe_int) po_none) pa_nil)))))))), ?_⟩
  obtain ⟨k1, k2, k3, k4, k5, k6, k7, k8, k9, k10⟩ := kd_ne
  cases hs with
  | @ite a b c v e vs ws t f h1 he hb hvs hc hws =>
    refine ⟨_, rfl, a, _, 0, .str "if", rfl, rfl, h1.sq, atI_nat (j := 0) rfl, ?_⟩
    refine ⟨_, rfl, by show 2 ≤ sizeLine; decide, fun U fU => ?_⟩
    have sU := same_upd (o := .tup ((["if", "when"] : List Str).map V.str)) fU
    refine ⟨U, (["if", "when"] : List Str).map V.str, rfl, .inr (SqT.of upd_same), rfl, strs_flat _, _, rfl, ite2 (fun _ => ?_) (fun y => absurd (by decide +kernel : ("if" : Str) ∈ (["if", "when"] : List Str)) (inv_f y))⟩
    have kU := keepT_of sU
    have hl : max (lvL t) (lvL f) + 1 ≤ n := ln
    have hz' : 1 + szL t + szL f ≤ 900 := hz
    refine ⟨_, rfl, _, rfl, a, _, 1, v, rfl, rfl, (h1.keep kU).sq, atI_nat (j := 1) rfl, _, rfl, a, _, 2, .ref b, rfl, rfl, (h1.keep kU).sq, atI_nat (j := 2) rfl, b, vs, t, ns, ps, rfl, hb.keep kU, hvs.keep kU, hw.2.1, hn.1, by omega, by omega, by omega, fun X pX H1 s2 nX eX bX => ?_⟩
    have k2 := kU.trans (keepT_of s2)
    refine ⟨_, rfl, a, _, 3, .ref c, rfl, rfl, (h1.keep k2).sq, atI_nat (j := 3) rfl, c, ws, f, ns, ps, rfl, hc.keep k2, hws.keep k2, hw.2.2, hn.2, by omega, by omega, by omega, fun Y pY H2 s3 nY eY bY => ?_⟩
    refine ⟨by show 4 ≤ sizeLine; decide, fun R fR => ?_⟩
    have sR := same_upd (o := .tup [V.str "if", v, .ref X, .ref Y]) fR
    have kR := keepT_of sR
    exact q _ _ ((sU.trans s2).trans (s3.trans sR)) (.ite (.inl upd_same) (he.keep (k2.trans ((keepT_of s3).trans kR))) (.inl (kR _ _ (s3 _ _ eX))) (bX.keep ((keepT_of s3).trans kR)) (.inl (kR _ _ eY)) (bY.keep kR))
  | @whn a b c o vs ws t f h1 hb hvs hc hws =>
    refine ⟨_, rfl, a, _, 0, .str "when", rfl, rfl, h1.sq, atI_nat (j := 0) rfl, ?_⟩
    refine ⟨_, rfl, by show 2 ≤ sizeLine; decide, fun U fU => ?_⟩
    have sU := same_upd (o := .tup ((["if", "when"] : List Str).map V.str)) fU
    refine ⟨U, (["if", "when"] : List Str).map V.str, rfl, .inr (SqT.of upd_same), rfl, strs_flat _, _, rfl, ite2 (fun _ => ?_) (fun y => absurd (by decide +kernel : ("when" : Str) ∈ (["if", "when"] : List Str)) (inv_f y))⟩
    have kU := keepT_of sU
    have hl : max (lvL t) (lvL f) + 1 ≤ n := ln
    have hz' : 1 + szL t + szL f ≤ 900 := hz
    refine ⟨_, rfl, _, rfl, a, _, 1, .str o, rfl, rfl, (h1.keep kU).sq, atI_nat (j := 1) rfl, _, rfl, a, _, 2, .ref b, rfl, rfl, (h1.keep kU).sq, atI_nat (j := 2) rfl, b, vs, t, ns, ps, rfl, hb.keep kU, hvs.keep kU, hw.2.1, hn.1, by omega, by omega, by omega, fun X pX H1 s2 nX eX bX => ?_⟩
    have k2 := kU.trans (keepT_of s2)
    refine ⟨_, rfl, a, _, 3, .ref c, rfl, rfl, (h1.keep k2).sq, atI_nat (j := 3) rfl, c, ws, f, ns, ps, rfl, hc.keep k2, hws.keep k2, hw.2.2, hn.2, by omega, by omega, by omega, fun Y pY H2 s3 nY eY bY => ?_⟩
    refine ⟨by show 4 ≤ sizeLine; decide, fun R fR => ?_⟩
    have sR := same_upd (o := .tup [V.str "when", .str o, .ref X, .ref Y]) fR
    have kR := keepT_of sR
    exact q _ _ ((sU.trans s2).trans (s3.trans sR)) (.whn (.inl upd_same) (.inl (kR _ _ (s3 _ _ eX))) (bX.keep ((keepT_of s3).trans kR)) (.inl (kR _ _ eY)) (bY.keep kR))
  | @move a p m k x h1 =>
    refine ⟨_, rfl, a, _, 0, .str "move", rfl, rfl, h1.sq, atI_nat (j := 0) rfl, ?_⟩
    refine ⟨_, rfl, by show 2 ≤ sizeLine; decide, fun U fU => ?_⟩
    have sU := same_upd (o := .tup ((["if", "when"] : List Str).map V.str)) fU
    refine ⟨U, (["if", "when"] : List Str).map V.str, rfl, .inr (SqT.of upd_same), rfl, strs_flat _, _, rfl, ite2 (fun y => absurd (inv_t y) k3) (fun _ => ?_)⟩
    refine ⟨_, rfl, by show 2 ≤ sizeLine; decide, fun U2 fU2 => ?_⟩
    have sU2 := same_upd (o := .tup ((["move", "show"] : List Str).map V.str)) fU2
    refine ⟨U2, (["move", "show"] : List Str).map V.str, rfl, .inr (SqT.of upd_same), rfl, strs_flat _, _, rfl, ite2 (fun _ => ?_) (fun y => absurd (by decide +kernel : ("move" : Str) ∈ (["move", "show"] : List Str)) (inv_f y))⟩
    have s12 := sU.trans sU2
    have ha := h1.keep (keepT_of s12)
    have at' : atI [V.int 0, .int 2, .int 1] p = some (.int (oth p)) := by
      have hm := hn.1
      have : p = 0 ∨ p = 1 ∨ p = 2 := by omega
      rcases this with rfl | rfl | rfl
      · exact atI_nat (j := 0) rfl
      · exact atI_nat (j := 1) rfl
      · exact atI_nat (j := 2) rfl
    refine ⟨_, rfl, _, rfl, a, _, 1, .int p, rfl, rfl, ha.sq, atI_nat (j := 1) rfl, T.A_OTHER_SEATS, _, p, .int (oth p), rfl, rfl, T.q_OTHER_SEATS _, at', ?_⟩
    refine ⟨_, rfl, _, rfl, a, _, rfl, ha.sq, by show ¬ (HT.sIx 5 0 (some 2) = 0 ∧ HT.sIx 5 5 none = 5); decide, fun Y fY => ?_⟩
    have sY := same_upd (o := .tup (cutV [V.str "move", .int p, .str x, .int m, .int k] (some 2) none)) fY
    refine ⟨Y, [V.str x, .int m, .int k], rfl, .inl (SqT.of upd_same), by show 5 ≤ sizeLine; decide, fun R fR => ?_⟩
    exact q _ _ ((s12.trans sY).trans (same_upd fR)) (.move (.inl upd_same))
  | @«show» a m v e h1 he =>
    refine ⟨_, rfl, a, _, 0, .str "show", rfl, rfl, h1.sq, atI_nat (j := 0) rfl, ?_⟩
    refine ⟨_, rfl, by show 2 ≤ sizeLine; decide, fun U fU => ?_⟩
    have sU := same_upd (o := .tup ((["if", "when"] : List Str).map V.str)) fU
    refine ⟨U, (["if", "when"] : List Str).map V.str, rfl, .inr (SqT.of upd_same), rfl, strs_flat _, _, rfl, ite2 (fun y => absurd (inv_t y) k4) (fun _ => ?_)⟩
    refine ⟨_, rfl, by show 2 ≤ sizeLine; decide, fun U2 fU2 => ?_⟩
    have sU2 := same_upd (o := .tup ((["move", "show"] : List Str).map V.str)) fU2
    refine ⟨U2, (["move", "show"] : List Str).map V.str, rfl, .inr (SqT.of upd_same), rfl, strs_flat _, _, rfl, ite2 (fun _ => ?_) (fun y => absurd (by decide +kernel : ("show" : Str) ∈ (["move", "show"] : List Str)) (inv_f y))⟩
    have s12 := sU.trans sU2
    have ha := h1.keep (keepT_of s12)
    have at' : atI [V.int 0, .int 2, .int 1] m = some (.int (oth m)) := by
      have hm : 0 ≤ m ∧ m < 3 := hn
      have : m = 0 ∨ m = 1 ∨ m = 2 := by omega
      rcases this with rfl | rfl | rfl
      · exact atI_nat (j := 0) rfl
      · exact atI_nat (j := 1) rfl
      · exact atI_nat (j := 2) rfl
    refine ⟨_, rfl, _, rfl, a, _, 1, .int m, rfl, rfl, ha.sq, atI_nat (j := 1) rfl, T.A_OTHER_SEATS, _, m, .int (oth m), rfl, rfl, T.q_OTHER_SEATS _, at', ?_⟩
    refine ⟨_, rfl, _, rfl, a, _, rfl, ha.sq, by show ¬ (HT.sIx 3 0 (some 2) = 0 ∧ HT.sIx 3 3 none = 3); decide, fun Y fY => ?_⟩
    have sY := same_upd (o := .tup (cutV [V.str "show", .int m, v] (some 2) none)) fY
    refine ⟨Y, [v], rfl, .inl (SqT.of upd_same), by show 3 ≤ sizeLine; decide, fun R fR => ?_⟩
    have sR := same_upd (o := .tup [V.str "show", .int (oth m), v]) fR
    exact q _ _ ((s12.trans sY).trans sR) (.show (.inl upd_same) (he.keep (keepT_of ((s12.trans sY).trans sR))))
  | @set a x v e h1 he =>
    refine ⟨_, rfl, a, _, 0, .str "set", rfl, rfl, h1.sq, atI_nat (j := 0) rfl, ?_⟩
    refine ⟨_, rfl, by show 2 ≤ sizeLine; decide, fun U fU => ?_⟩
    have sU := same_upd (o := .tup ((["if", "when"] : List Str).map V.str)) fU
    refine ⟨U, (["if", "when"] : List Str).map V.str, rfl, .inr (SqT.of upd_same), rfl, strs_flat _, _, rfl, ite2 (fun y => absurd (inv_t y) k1) (fun _ => ?_)⟩
    refine ⟨_, rfl, by show 2 ≤ sizeLine; decide, fun U2 fU2 => ?_⟩
    have sU2 := same_upd (o := .tup ((["move", "show"] : List Str).map V.str)) fU2
    refine ⟨U2, (["move", "show"] : List Str).map V.str, rfl, .inr (SqT.of upd_same), rfl, strs_flat _, _, rfl, ite2 (fun y => absurd (inv_t y) k7) (fun _ => ?_)⟩
    have s12 := sU.trans sU2
    have ha := h1.keep (keepT_of s12)
    refine ⟨T.A_OTHER_PAYMENTS, rfl, T.sm_OTHER_PAYMENTS, ⟨_, some (.str "take"), T.kd_OTHER_PAYMENTS_0⟩, _, rfl, _, rfl, _, none, rfl, T.kn_set, ?_⟩
    refine ⟨_, rfl, _, rfl, a, _, rfl, ha.sq, by show ¬ (HT.sIx 3 0 (some 1) = 0 ∧ HT.sIx 3 3 none = 3); decide, fun Y fY => ?_⟩
    have sY := same_upd (o := .tup (cutV [V.str "set", .str x, v] (some 1) none)) fY
    refine ⟨Y, [V.str x, v], rfl, .inl (SqT.of upd_same), by show 3 ≤ sizeLine; decide, fun R fR => ?_⟩
    have sR := same_upd (o := .tup [V.str "set", .str x, v]) fR
    exact q _ _ ((s12.trans sY).trans sR) (.set (.inl upd_same) (he.keep (keepT_of ((s12.trans sY).trans sR))))
  | @draw a x m h1 =>
    refine ⟨_, rfl, a, _, 0, .str "draw", rfl, rfl, h1.sq, atI_nat (j := 0) rfl, ?_⟩
    refine ⟨_, rfl, by show 2 ≤ sizeLine; decide, fun U fU => ?_⟩
    have sU := same_upd (o := .tup ((["if", "when"] : List Str).map V.str)) fU
    refine ⟨U, (["if", "when"] : List Str).map V.str, rfl, .inr (SqT.of upd_same), rfl, strs_flat _, _, rfl, ite2 (fun y => absurd (inv_t y) k2) (fun _ => ?_)⟩
    refine ⟨_, rfl, by show 2 ≤ sizeLine; decide, fun U2 fU2 => ?_⟩
    have sU2 := same_upd (o := .tup ((["move", "show"] : List Str).map V.str)) fU2
    refine ⟨U2, (["move", "show"] : List Str).map V.str, rfl, .inr (SqT.of upd_same), rfl, strs_flat _, _, rfl, ite2 (fun y => absurd (inv_t y) k8) (fun _ => ?_)⟩
    have s12 := sU.trans sU2
    have ha := h1.keep (keepT_of s12)
    refine ⟨T.A_OTHER_PAYMENTS, rfl, T.sm_OTHER_PAYMENTS, ⟨_, some (.str "take"), T.kd_OTHER_PAYMENTS_0⟩, _, rfl, _, rfl, _, none, rfl, T.kn_draw, ?_⟩
    refine ⟨_, rfl, _, rfl, a, _, rfl, ha.sq, by show ¬ (HT.sIx 3 0 (some 1) = 0 ∧ HT.sIx 3 3 none = 3); decide, fun Y fY => ?_⟩
    have sY := same_upd (o := .tup (cutV [V.str "draw", .str x, .int m] (some 1) none)) fY
    refine ⟨Y, [V.str x, .int m], rfl, .inl (SqT.of upd_same), by show 3 ≤ sizeLine; decide, fun R fR => ?_⟩
    exact q _ _ ((s12.trans sY).trans (same_upd fR)) (.draw (.inl upd_same))
  | @pay a s v e h1 he =>
    have hs : s ∉ (["if", "when"] : List Str) ∧ s ∉ (["move", "show"] : List Str) ∧ KDct K w T.A_OTHER_PAYMENTS s (.str (othP s)) := by
      rcases hw.1 with rfl | rfl
      · exact ⟨k5, k9, T.kd_OTHER_PAYMENTS_0⟩
      · exact ⟨k6, k10, T.kd_OTHER_PAYMENTS_1⟩
    refine ⟨_, rfl, a, _, 0, .str s, rfl, rfl, h1.sq, atI_nat (j := 0) rfl, ?_⟩
    refine ⟨_, rfl, by show 2 ≤ sizeLine; decide, fun U fU => ?_⟩
    have sU := same_upd (o := .tup ((["if", "when"] : List Str).map V.str)) fU
    refine ⟨U, (["if", "when"] : List Str).map V.str, rfl, .inr (SqT.of upd_same), rfl, strs_flat _, _, rfl, ite2 (fun y => absurd (inv_t y) hs.1) (fun _ => ?_)⟩
    refine ⟨_, rfl, by show 2 ≤ sizeLine; decide, fun U2 fU2 => ?_⟩
    have sU2 := same_upd (o := .tup ((["move", "show"] : List Str).map V.str)) fU2
    refine ⟨U2, (["move", "show"] : List Str).map V.str, rfl, .inr (SqT.of upd_same), rfl, strs_flat _, _, rfl, ite2 (fun y => absurd (inv_t y) hs.2.1) (fun _ => ?_)⟩
    have s12 := sU.trans sU2
    have ha := h1.keep (keepT_of s12)
    refine ⟨T.A_OTHER_PAYMENTS, rfl, T.sm_OTHER_PAYMENTS, ⟨_, some (.str "take"), T.kd_OTHER_PAYMENTS_0⟩, _, rfl, _, rfl, _, some (.str (othP s)), rfl, hs.2.2, ?_⟩
    refine ⟨_, rfl, _, rfl, a, _, rfl, ha.sq, by show ¬ (HT.sIx 2 0 (some 1) = 0 ∧ HT.sIx 2 2 none = 2); decide, fun Y fY => ?_⟩
    have sY := same_upd (o := .tup (cutV [V.str s, v] (some 1) none)) fY
    refine ⟨Y, [v], rfl, .inl (SqT.of upd_same), by show 2 ≤ sizeLine; decide, fun R fR => ?_⟩
    have sR := same_upd (o := .tup [V.str (othP s), v]) fR
    exact q _ _ ((s12.trans sY).trans sR) (.pay (.inl upd_same) (he.keep (keepT_of ((s12.trans sY).trans sR))))
/-! ### _swapped_block -/
theorem step_swapped_block (T : Txt K mg w) {n : Nat} (G : FnOk P w K mg base CX0 (0 + 2 * n) T.a_swapped_block T.d_swapped_block ["block"] (sp_swapped_block T n)) : FnOk P w K mg base CX0 (0 + 2 * n + 2) T.a_swapped_block T.d_swapped_block ["block"] (sp_swapped_block T (n + 1)) := by
  refine T.F_swapped_block.ok sc_swapped_block (fun vs H Q E h => ?_) (fun cdv A outer s H vs Q E hr h => ?_)
  · obtain ⟨b, ws, ss, ns, ps, rfl, _⟩ := h
    rfl
  obtain ⟨b, ws, ss, ns, ps, rfl, hb, hv, hw, hn, ln, n10, hz, q⟩ := h
  refine ⟨_, (pss_one (ps_ret (pe_callTy call_tuple_of (by rfl) T.z_tuple (by first | exact PySem.boot_tuple | decide +kernel) (pa_cons (pe_lc (own := [("statement", 1)]) (g := gName 1) (tt := tYes) rfl sc_swapped_block.nd (pi_tup (pv 0)) (blkOk_by (N := N_swapped_block) (sc := defScope s_swapped_block) (by decide +kernel)) (fun _ _ _ _ _ => (pg_name (i := 1) sc_swapped_block.nd rfl (by first | exact Or.inl rfl | exact Or.inr rfl))) (fun _ _ _ _ _ => pts_nil) (fun _ _ _ _ _ => (pe_call (ok_swapped_statement T G) (hr.mono (by omega)) (by rfl) T.m_swapped_statement T.F_swapped_statement.kp T.b_swapped_statement .nil pass0 (pa_cons (pv 1) pa_nil)))) pa_nil)))), ?_⟩
  have hl2 : ws.length = ss.length := Bv.len hv
  have ls := len_sz ss
  refine ⟨_, rfl, b, rfl, ⟨_, hb.sq⟩, fun D hD => ?_⟩
  refine lc_tup (a := b) (xs := ws) (fun i H2 => Same H H2 ∧ ∃ pv, H2 D = some (.lst pv) ∧ Bv K H2 pv (swpL (ss.take i))) ⟨same_upd hD, [], upd_same, .nil⟩ (fun i H2 _ h => (hb.keep (keepT_of h.1)).sq) (fun i v H2 hi h => ?_) (fun H2 h => ?_)
  · obtain ⟨s2, pv, e2, p2⟩ := h
    obtain ⟨s0, hs0, hsv⟩ := hv.get hi
    have l1 := lvL_get hs0
    have z1 := szL_get hs0
    have lp := p2.len
    have lt := lp.trans (by rw [swpL_map, List.length_map])
    have il : (ss.take i).length ≤ ss.length := by rw [List.length_take]; omega
    refine ⟨rfl, ?_⟩
    refine ⟨_, rfl, v, s0, ns, ps, rfl, hsv.keep (keepT_of s2), wfL_get hw hs0, nbL_get hn hs0, by omega, by omega, by omega, fun v' H3 s3 hs3 => ?_⟩
    have e3 := s3 _ _ e2
    have kW := keepT_lst (ys := pv ++ [v']) e3
    refine ⟨pv, e3, small1000 (by omega), fun c o e => ?_, _, upd_same, ?_⟩
    · rw [upd_ne (ne_of_none e hD)]
      exact s3 _ _ (s2 _ _ e)
    · rw [swpL_take hs0]
      exact (p2.keep ((keepT_of s3).trans kW)).app (.one (hs3.keep kW))
  obtain ⟨s2, pv, e2, p2⟩ := h
  rw [hl2, List.take_length] at p2
  refine ⟨D, _, rfl, .inl ⟨SqL.of e2, fun ca fc => ?_⟩⟩
  have s3 := same_upd (o := .tup pv) fc
  exact q ca pv _ (s2.trans s3) (none_back s2 fc) upd_same (p2.keep (keepT_of s3))
theorem ok_swapped_block (T : Txt K mg w) : ∀ n, FnOk P w K mg base CX0 (0 + 2 * n) T.a_swapped_block T.d_swapped_block ["block"] (sp_swapped_block T n)
  | 0 => ⟨fun vs H Q E h => absurd h (no_swapped_block T vs H Q E), fun A outer s H args us vs Q E _ _ _ _ h => absurd h (no_swapped_block T vs H Q E)⟩
  | n + 1 => step_swapped_block T (ok_swapped_block T n)
/-! ### swapped -/
/-- rounds that can be gone through -/
def RdOk (rs : List (Str × List St)) : Prop := ∀ q ∈ rs, (∃ ns ps, WfL ns ps q.2) ∧ NbL q.2 ∧ lvL q.2 ≤ 8 ∧ szL q.2 ≤ 900
theorem GameS.same {K : PySem.W.Frag} {C : Addr} {H H' : Hp} {g : Addr} {os : List (Str × Bool)} {us : List (Str × Int)} {rs : List (Str × List St)} (h : GameS K C H g os us rs) (s : Same H H') : GameS K C H' g os us rs := by
  obtain ⟨dx, o, u, r, ov, uv, rv, hg, ho, po, hu, pu, hr, pr⟩ := h
  have k := keepT_of s
  exact ⟨dx, o, u, r, ov, uv, rv, s _ _ hg, k _ _ ho, L2.Paired.mapP po fun _ _ y => y.keep k, k _ _ hu, L2.Paired.mapP pu fun _ _ y => y.keep k, k _ _ hr, L2.Paired.mapP pr fun _ _ y => y.keep k⟩
theorem make_gameL (T : Txt K mg w) {H : Hp} {o u r : Addr} {ov uv rv : List V} {os : List (Str × Bool)} {us : List (Str × Int)} {rs : List (Str × List St)} {R : Addr → Hp → Prop} {E : XK} (ho : LsT H o ov) (po : Paired (OptV H) ov os) (lo : os.length ≤ 100) (hu : LsT H u uv) (pu : Paired (VarV H) uv us) (lu : us.length ≤ 100) (hr : LsT H r rv) (pr : Paired (RndV K H) rv rs) (lr : rs.length ≤ 100)
    (k : ∀ x H', Same H H' → H x = none → GameS K T.C_Game H' x os us rs → R x H') : ∀ x dx, H x = none → H dx = none → dx ≠ x → sp_Game_init T [.ref x, .ref o, .ref u, .ref r] (upd (upd H dx (.own x)) x (.ins T.C_Game dx [])) (fun v H2 => v = .non ∧ R x H2) E := by
  intro x dx nx nd ne
  have sx : Same H (upd (upd H dx (.own x)) x (.ins T.C_Game dx [])) := fun b o e => by rw [upd_ne (ne_of_none e nx), upd_ne (ne_of_none e nd)]; exact e
  have kx := keepT_of sx
  have ls : ∀ {a : Addr} {xs : List V}, LsT H a xs → LsT (upd (upd H dx (.own x)) x (.ins T.C_Game dx [])) a xs := fun h => h.imp (sx _ _) (sx _ _)
  refine ⟨x, dx, o, u, r, ov, uv, rv, os, us, rs, rfl, upd_same, ls ho, L2.Paired.mapP po fun _ _ y => OptV.keep kx y, lo, ls hu, L2.Paired.mapP pu fun _ _ y => VarV.keep kx y, lu, ls hr, L2.Paired.mapP pr fun _ _ y => RndV.keep kx y, lr, fun H11 b11 gm => ⟨rfl, k x H11 (fun b o e => b11 b o (ne_of_none e nx) (sx _ _ e)) nx gm⟩⟩
def sp_swapped (T : Txt K mg w) : Sp := fun vs H Q _ => ∃ (g : Addr) (os : List (Str × Bool)) (us : List (Str × Int)) (rs : List (Str × List St)), vs = [.ref g] ∧ GameS K T.C_Game H g os us rs ∧ RdOk rs ∧ os.length ≤ 100 ∧ us.length ≤ 100 ∧ rs.length ≤ 100 ∧
  ∀ (x : Addr) (H' : Hp), Same H H' → H x = none → GameS K T.C_Game H' x os us (swpR rs) → Q (.ref x) H'
theorem swpR_take {rs : List (Str × List St)} {i : Nat} {t : Str × List St} (h : rs[i]? = some t) : swpR (rs.take (i + 1)) = swpR (rs.take i) ++ [(t.1, swpL t.2)] := by
  unfold swpR
  rw [List.take_add_one, h, List.map_append]
  rfl

theorem ok_swapped (T : Txt K mg w) : FnOk P w K mg base CX0 21 T.a_swapped T.d_swapped ["game"] (sp_swapped T) := by
  refine T.F_swapped.ok sc_swapped (fun vs H Q E h => ?_) (fun cdv A outer s H vs Q E hr h => ?_)
  · obtain ⟨g, os, us, rs, rfl, _⟩ := h
    rfl
  obtain ⟨g, os, us, rs, rfl, gs, hk, lo, lu, lr, q⟩ := h
  refine ⟨_, (pss_one (ps_ret (pe_make T.mk_Game (ok_Game_init T) (hr.mono (by decide)) (by rfl) T.m_Game T.b_Game_init .nil pass0 (pa_cons (pe_fld (pv 0) rfl) (pa_cons (pe_fld (pv 0) rfl) (pa_cons (pe_lc (own := [("name", 1), ("block", 2)]) (g := gTup K 2 (gCons (gName 1) (gCons (gName 2) gNil))) (tt := tYes) rfl sc_swapped.nd (pi_tup (pe_fld (pv 0) rfl)) (blkOk_by (N := N_swapped) (sc := defScope s_swapped) (by decide +kernel)) (fun _ _ _ _ _ => (by exact (pg_tup rfl (pgs_cons (pg_name (i := 1) sc_swapped.nd rfl (by first | exact Or.inl rfl | exact Or.inr rfl)) (pgs_cons (pg_name (i := 2) sc_swapped.nd rfl (by first | exact Or.inl rfl | exact Or.inr rfl)) pgs_nil))))) (fun _ _ _ _ _ => pts_nil) (fun _ _ _ _ _ => (by exact (pe_tup (pa_cons (pv 1) (pa_cons (pe_call (ok_swapped_block T 10) (hr.mono (by decide)) (by rfl) T.m_swapped_block T.F_swapped_block.kp T.b_swapped_block .nil pass0 (pa_cons (pv 2) pa_nil)) pa_nil)))))) pa_nil)))))), ?_⟩
  obtain ⟨dx, o, u, r, ov, uv, rv, hg, ho, po, hu, pu, hr', pr⟩ := id gs
  have lrv := paired_len pr
  refine ⟨_, rfl, g, T.C_Game, dx, _, _, rfl, hg, T.cl_Game, T.n_Game_options, lk_ix gmNd 0 rfl, _, rfl, g, T.C_Game, dx, _, _, rfl, hg, T.cl_Game, T.n_Game_variables, lk_ix gmNd 1 rfl, ?_⟩
  refine ⟨_, rfl, g, T.C_Game, dx, _, _, rfl, hg, T.cl_Game, T.n_Game_rounds, lk_ix gmNd 2 rfl, r, rfl, ⟨_, SqT.of hr'⟩, fun D hD => ?_⟩
  refine lc_tup (a := r) (xs := rv) (fun i H2 => Same H H2 ∧ ∃ ws, H2 D = some (.lst ws) ∧ Paired (RndV K H2) ws (swpR (rs.take i))) ⟨same_upd hD, [], upd_same, .nil⟩ (fun i H2 _ h => SqT.of (h.1 _ _ hr')) (fun i v H2 hv h => ?_) (fun H2 h => ?_)
  · obtain ⟨s2, ws, e2, p2⟩ := h
    obtain ⟨t, ht, U2, b, zs, rfl, hU2, hb, hbv⟩ := pgetC pr hv
    obtain ⟨⟨ns, ps, w1⟩, w2, w3, w4⟩ := hk t (List.mem_of_getElem? ht)
    have l2 := (paired_len p2).trans (by unfold swpR; rw [List.length_map, List.length_take])
    refine ⟨U2, _, rfl, SqT.of (s2 _ _ hU2), rfl, _, _, rfl, _, _, rfl, rfl, ?_⟩
    refine ⟨rfl, ?_⟩
    refine ⟨_, rfl, _, rfl, b, zs, t.2, ns, ps, rfl, .inl (s2 _ _ hb), hbv.keep (keepT_of s2), w1, w2, by omega, by decide, w4, fun X pX H3 s3 nX eX bX => ?_⟩
    refine ⟨by show 2 ≤ sizeLine; decide, fun U hU => ?_⟩
    have sU := same_upd (o := .tup [V.str t.1, .ref X]) hU
    have e3 := sU _ _ (s3 _ _ e2)
    have kW := keepT_lst (ys := ws ++ [.ref U]) e3
    have kU := (keepT_of sU).trans kW
    have kA := (keepT_of s3).trans kU
    refine ⟨_, e3, small1000 (by omega), fun c o' e => ?_, _, upd_same, ?_⟩
    · rw [upd_ne (ne_of_none e hD)]
      exact sU _ _ (s3 _ _ (s2 _ _ e))
    · rw [swpR_take ht]
      exact paired_snocC (L2.Paired.mapP p2 fun _ _ z => RndV.keep kA z) ⟨U, X, pX, rfl, kW _ _ upd_same, kU _ _ eX, bX.keep kU⟩
  obtain ⟨s2, ws, e2, p2⟩ := h
  rw [lrv, List.take_length] at p2
  have k2 := keepT_of s2
  exact make_gameL T (.inr (s2 _ _ ho)) (L2.Paired.mapP po fun _ _ z => OptV.keep k2 z) lo (.inr (s2 _ _ hu)) (L2.Paired.mapP pu fun _ _ z => VarV.keep k2 z) lu (.inl e2) p2 (by unfold swpR; rw [List.length_map]; exact lr) fun x H3 s3 n3 g3 => q x H3 (s2.trans s3) (none_back s2 n3) g3
/-! ### Numbering._statement -/
def sp_Numbering_numbered (T : Txt K mg w) (n : Nat) : Sp := fun vs H Q _ => ∃ (x dx b : Addr) (k : Nat) (ws : List V) (ss : List St) (ns ps : List Str), vs = [.ref x, .ref b] ∧ NmgV T.C_Numbering H x dx k ∧ TpK K H b ws ∧ Bv K H ws ss ∧ WfL ns ps ss ∧ lvL ss + 1 ≤ n ∧ n ≤ 10 ∧ szL ss ≤ 900 ∧
  ∀ (p : Addr) (pv : List V) (H' : Hp), But x H H' → NmgV T.C_Numbering H' x dx (numbL ss k).2 → H p = none → H' p = some (.tup pv) → Bv K H' pv (numbL ss k).1 → Q (.ref p) H'
theorem no_Numbering_numbered (T : Txt K mg w) : ∀ vs H Q E, ¬ sp_Numbering_numbered T 0 vs H Q E := fun vs H Q E ⟨_, _, _, _, _, _, _, _, _, _, _, _, _, h, _⟩ => by omega
def sp_Numbering_statement (T : Txt K mg w) (n : Nat) : Sp := fun vs H Q _ => ∃ (x dx : Addr) (k : Nat) (v : V) (s : St) (ns ps : List Str), vs = [.ref x, v] ∧ NmgV T.C_Numbering H x dx k ∧ Sv K H v s ∧ s.Wf ns ps ∧ s.lv ≤ n ∧ n ≤ 9 ∧ s.sz ≤ 900 ∧
  ∀ (v' : V) (H' : Hp), But x H H' → NmgV T.C_Numbering H' x dx (s.num k).2 → Sv K H' v' (s.num k).1 → Q v' H'
theorem nm_no {a : V} {m : Str} (h : m ≠ "_count") : ([("_count", a)] : List (Str × V)).lookup m = none := lk_none (by
  show m ∉ (["_count"] : List Str)
  exact fun z => h (List.mem_singleton.mp z))
theorem NmgV.keep {C : Addr} {H H' : Hp} {x dx : Addr} {k : Nat} (h : NmgV C H x dx k) (s : Same H H') : NmgV C H' x dx k := s _ _ h
theorem none_but {H H' : Hp} {x p : Addr} {o : HO} (hx : H x = some o) (b : But x H H') (h' : H' x ≠ none) (h : H' p = none) : H p = none := by
  cases e : H p with
  | none => rfl
  | some u =>
    by_cases z : p = x
    · rw [z] at h
      exact absurd h h'
    · rw [b _ _ z e] at h
      cases h


theorem ok_Numbering_statement (T : Txt K mg w) {n : Nat} (G : FnOk P w K mg base CX0 (0 + 2 * n) T.a_Numbering_numbered T.d_Numbering_numbered ["self", "block"] (sp_Numbering_numbered T n)) : FnOk P w K mg base CX0 (0 + 2 * n + 1) T.a_Numbering_statement T.d_Numbering_statement ["self", "statement"] (sp_Numbering_statement T n) := by
  refine T.F_Numbering_statement.ok sc_Numbering_statement (fun vs H Q E h => ?_) (fun cdv A outer s0 H vs Q E hr h => ?_)
  · obtain ⟨x, dx, k, v, s, ns, ps, rfl, _⟩ := h
    rfl
  obtain ⟨x, dx, k, v, s, ns, ps, rfl, hx, hs, hw, ln, n9, hz, q⟩ := h
  refine ⟨_, (pss_cons (ps_set (i := 2) sc_Numbering_statement.nd rfl (by first | exact Or.inl rfl | exact Or.inr rfl) (pe_ix ix_tup (pv 1) pe_int (fun _ _ => rfl)))
      (pss_cons (ps_if (pt_cmpR op_in_seq (pv 2) (pe_tup (pa_cons pe_str (pa_cons pe_str pa_nil))) (by with_unfolding_all rfl)) (pss_cons (ps_set (i := 3) sc_Numbering_statement.nd rfl (by first | exact Or.inl rfl | exact Or.inr rfl) (pe_meth (pv 0) T.cl_Numbering T.me_Numbering_numbered G (hr.mono (by omega)) T.b_Numbering_numbered .nil pass0 (pa_cons (pe_ix ix_tup (pv 1) pe_int (fun _ _ => rfl)) pa_nil)))
      (pss_one (ps_ret (pe_tup (pa_cons (pv 2) (pa_cons (pe_ix ix_tup (pv 1) pe_int (fun _ _ => rfl)) (pa_cons (pv 3) (pa_cons (pe_meth (pv 0) T.cl_Numbering T.me_Numbering_numbered G (hr.mono (by omega)) T.b_Numbering_numbered .nil pass0 (pa_cons (pe_ix ix_tup (pv 1) pe_int (fun _ _ => rfl)) pa_nil)) pa_nil)))))))) pss_nil)
      (pss_cons (ps_if (pt_cmpR op_eq (pv 2) pe_str (nomark _)) (pss_cons (ps_set (i := 4) sc_Numbering_statement.nd rfl (by first | exact Or.inl rfl | exact Or.inr rfl) (pe_fld (pv 0) rfl))
      (pss_cons (ps_fldaug (pv 0) pe_int in_add)
      (pss_one (ps_ret (pe_tup (StX.pa_star (pe_slice sl_tup (pv 1) po_none (po_some pe_int)) (pa_cons (pv 4) pa_nil))))))) pss_nil)
      (pss_one (ps_ret (pv 1)))))), ?_⟩
  obtain ⟨k1, k2, k3, k4, k5, k6, _⟩ := kd_ne
  obtain ⟨m1, m2⟩ : ("numbered" : Str) ≠ "_count" ∧ ("_statement" : Str) ≠ "_count" := by decide +kernel
  cases hs with
  | @ite a b c v e vs ws t f h1 he hb hvs hc hws =>
    refine ⟨_, rfl, a, _, 0, .str "if", rfl, rfl, h1.sq, atI_nat (j := 0) rfl, ?_⟩
    refine ⟨_, rfl, by show 2 ≤ sizeLine; decide, fun U fU => ?_⟩
    have sU := same_upd (o := .tup ((["if", "when"] : List Str).map V.str)) fU
    refine ⟨U, (["if", "when"] : List Str).map V.str, rfl, .inr (SqT.of upd_same), rfl, strs_flat _, _, rfl, ite2 (fun _ => ?_) (fun y => absurd (by decide +kernel : ("if" : Str) ∈ (["if", "when"] : List Str)) (inv_f y))⟩
    have kU := keepT_of sU
    have hl : max (lvL t) (lvL f) + 1 ≤ n := ln
    have hz' : 1 + szL t + szL f ≤ 900 := hz
    have hxU := hx.keep sU
    refine ⟨_, rfl, x, dx, _, rfl, hxU, nm_no m1, _, rfl, a, _, 2, .ref b, rfl, rfl, (h1.keep kU).sq, atI_nat (j := 2) rfl, x, dx, b, k, vs, t, ns, ps, rfl, hxU, hb.keep kU, hvs.keep kU, hw.2.1, by omega, by omega, by omega, fun X pX H1 b2 x2 nX eX bX => ?_⟩
    have k2 := keepT_ins hxU b2
    have k02 := kU.trans k2
    refine ⟨_, rfl, _, rfl, a, _, 1, v, rfl, rfl, (h1.keep k02).sq, atI_nat (j := 1) rfl, _, rfl, _, rfl, x, dx, _, rfl, x2, nm_no m1, _, rfl, a, _, 3, .ref c, rfl, rfl, (h1.keep k02).sq, atI_nat (j := 3) rfl, x, dx, c, _, ws, f, ns, ps, rfl, x2, hc.keep k02, hws.keep k02, hw.2.2, by omega, by omega, by omega, fun Y pY H2 b3 x3 nY eY bY => ?_⟩
    have k3 := keepT_ins x2 b3
    refine ⟨by show 4 ≤ sizeLine; decide, fun R fR => ?_⟩
    have sR := same_upd (o := .tup [V.str "if", v, .ref X, .ref Y]) fR
    have kR := keepT_of sR
    exact q _ _ ((but_of sU).trans (b2.trans (b3.trans (but_of sR)))) (x3.keep sR) (.ite (.inl upd_same) (he.keep (k02.trans (k3.trans kR))) (.inl (kR _ _ (k3 _ _ eX))) (bX.keep (k3.trans kR)) (.inl (kR _ _ eY)) (bY.keep kR))
  | @whn a b c o vs ws t f h1 hb hvs hc hws =>
    refine ⟨_, rfl, a, _, 0, .str "when", rfl, rfl, h1.sq, atI_nat (j := 0) rfl, ?_⟩
    refine ⟨_, rfl, by show 2 ≤ sizeLine; decide, fun U fU => ?_⟩
    have sU := same_upd (o := .tup ((["if", "when"] : List Str).map V.str)) fU
    refine ⟨U, (["if", "when"] : List Str).map V.str, rfl, .inr (SqT.of upd_same), rfl, strs_flat _, _, rfl, ite2 (fun _ => ?_) (fun y => absurd (by decide +kernel : ("when" : Str) ∈ (["if", "when"] : List Str)) (inv_f y))⟩
    have kU := keepT_of sU
    have hl : max (lvL t) (lvL f) + 1 ≤ n := ln
    have hz' : 1 + szL t + szL f ≤ 900 := hz
    have hxU := hx.keep sU
    refine ⟨_, rfl, x, dx, _, rfl, hxU, nm_no m1, _, rfl, a, _, 2, .ref b, rfl, rfl, (h1.keep kU).sq, atI_nat (j := 2) rfl, x, dx, b, k, vs, t, ns, ps, rfl, hxU, hb.keep kU, hvs.keep kU, hw.2.1, by omega, by omega, by omega, fun X pX H1 b2 x2 nX eX bX => ?_⟩
    have k2 := keepT_ins hxU b2
    have k02 := kU.trans k2
    refine ⟨_, rfl, _, rfl, a, _, 1, .str o, rfl, rfl, (h1.keep k02).sq, atI_nat (j := 1) rfl, _, rfl, _, rfl, x, dx, _, rfl, x2, nm_no m1, _, rfl, a, _, 3, .ref c, rfl, rfl, (h1.keep k02).sq, atI_nat (j := 3) rfl, x, dx, c, _, ws, f, ns, ps, rfl, x2, hc.keep k02, hws.keep k02, hw.2.2, by omega, by omega, by omega, fun Y pY H2 b3 x3 nY eY bY => ?_⟩
    have k3 := keepT_ins x2 b3
    refine ⟨by show 4 ≤ sizeLine; decide, fun R fR => ?_⟩
    have sR := same_upd (o := .tup [V.str "when", .str o, .ref X, .ref Y]) fR
    have kR := keepT_of sR
    exact q _ _ ((but_of sU).trans (b2.trans (b3.trans (but_of sR)))) (x3.keep sR) (.whn (.inl upd_same) (.inl (kR _ _ (k3 _ _ eX))) (bX.keep (k3.trans kR)) (.inl (kR _ _ eY)) (bY.keep kR))
  | @move a p m k' y h1 =>
    refine ⟨_, rfl, a, _, 0, .str "move", rfl, rfl, h1.sq, atI_nat (j := 0) rfl, ?_⟩
    refine ⟨_, rfl, by show 2 ≤ sizeLine; decide, fun U fU => ?_⟩
    have sU := same_upd (o := .tup ((["if", "when"] : List Str).map V.str)) fU
    refine ⟨U, (["if", "when"] : List Str).map V.str, rfl, .inr (SqT.of upd_same), rfl, strs_flat _, _, rfl, ite2 (fun y => absurd (inv_t y) k3) (fun _ => ?_)⟩
    refine ⟨_, rfl, rfl, _, rfl, iteS ?_⟩
    have hxU := hx.keep sU
    refine ⟨_, rfl, x, T.C_Numbering, dx, _, _, rfl, hxU, T.cl_Numbering, T.n_Numbering__count, lk_ix nmgNd 0 rfl, ?_⟩
    refine ⟨_, rfl, x, T.C_Numbering, dx, _, _, rfl, hxU, T.cl_Numbering, T.n_Numbering__count, lk_ix nmgNd 0 rfl, _, _, rfl, rfl, dx, _, hxU, by show 1 < 1000; decide, ?_⟩
    rw [pf_ix nmgNd 0 rfl]
    generalize eH2 : upd _ x _ = H2
    have b2 : But x _ H2 := eH2 ▸ but_upd
    have x2 : NmgV T.C_Numbering H2 x dx (k + 1) := eH2 ▸ upd_same
    clear eH2
    have k2 := keepT_ins hxU b2
    have ha := (h1.keep (keepT_of sU)).keep k2
    refine ⟨_, rfl, _, rfl, a, _, rfl, ha.sq, by show ¬ (HT.sIx 5 0 none = 0 ∧ HT.sIx 5 5 (some 4) = 5); decide, fun Y fY => ?_⟩
    have sY := same_upd (o := .tup (cutV [V.str "move", .int p, .str y, .int m, .int k'] none (some 4))) fY
    refine ⟨Y, [V.str "move", .int p, .str y, .int m], rfl, .inl (SqT.of upd_same), _, rfl, by show 5 ≤ sizeLine; decide, fun R fR => ?_⟩
    have sR := same_upd (o := .tup [V.str "move", .int p, .str y, .int m, .int ((k : Nat) : Int)]) fR
    exact q _ _ ((but_of sU).trans (b2.trans (but_of (sY.trans sR)))) ((x2.keep sY).keep sR) (.move (.inl upd_same))
  | @set a y v e h1 he =>
    refine ⟨_, rfl, a, _, 0, .str "set", rfl, rfl, h1.sq, atI_nat (j := 0) rfl, ?_⟩
    refine ⟨_, rfl, by show 2 ≤ sizeLine; decide, fun U fU => ?_⟩
    have sU := same_upd (o := .tup ((["if", "when"] : List Str).map V.str)) fU
    refine ⟨U, (["if", "when"] : List Str).map V.str, rfl, .inr (SqT.of upd_same), rfl, strs_flat _, _, rfl, ite2 (fun y => absurd (inv_t y) k1) (fun _ => ?_)⟩
    refine ⟨_, rfl, rfl, _, rfl, iteN (by decide +kernel) ?_⟩
    exact ⟨_, rfl, q _ _ (but_of sU) (hx.keep sU) (.set (h1.keep (keepT_of sU)) (he.keep (keepT_of sU)))⟩
  | @draw a y m h1 =>
    refine ⟨_, rfl, a, _, 0, .str "draw", rfl, rfl, h1.sq, atI_nat (j := 0) rfl, ?_⟩
    refine ⟨_, rfl, by show 2 ≤ sizeLine; decide, fun U fU => ?_⟩
    have sU := same_upd (o := .tup ((["if", "when"] : List Str).map V.str)) fU
    refine ⟨U, (["if", "when"] : List Str).map V.str, rfl, .inr (SqT.of upd_same), rfl, strs_flat _, _, rfl, ite2 (fun y => absurd (inv_t y) k2) (fun _ => ?_)⟩
    refine ⟨_, rfl, rfl, _, rfl, iteN (by decide +kernel) ?_⟩
    exact ⟨_, rfl, q _ _ (but_of sU) (hx.keep sU) (.draw (h1.keep (keepT_of sU)))⟩
  | @«show» a m v e h1 he =>
    refine ⟨_, rfl, a, _, 0, .str "show", rfl, rfl, h1.sq, atI_nat (j := 0) rfl, ?_⟩
    refine ⟨_, rfl, by show 2 ≤ sizeLine; decide, fun U fU => ?_⟩
    have sU := same_upd (o := .tup ((["if", "when"] : List Str).map V.str)) fU
    refine ⟨U, (["if", "when"] : List Str).map V.str, rfl, .inr (SqT.of upd_same), rfl, strs_flat _, _, rfl, ite2 (fun y => absurd (inv_t y) k4) (fun _ => ?_)⟩
    refine ⟨_, rfl, rfl, _, rfl, iteN (by decide +kernel) ?_⟩
    exact ⟨_, rfl, q _ _ (but_of sU) (hx.keep sU) (.show (h1.keep (keepT_of sU)) (he.keep (keepT_of sU)))⟩
  | @pay a sg v e h1 he =>
    have hsg : sg ∉ (["if", "when"] : List Str) ∧ sg ≠ "move" := by
      rcases hw.1 with rfl | rfl
      · exact ⟨k5, by decide +kernel⟩
      · exact ⟨k6, by decide +kernel⟩
    refine ⟨_, rfl, a, _, 0, .str sg, rfl, rfl, h1.sq, atI_nat (j := 0) rfl, ?_⟩
    refine ⟨_, rfl, by show 2 ≤ sizeLine; decide, fun U fU => ?_⟩
    have sU := same_upd (o := .tup ((["if", "when"] : List Str).map V.str)) fU
    refine ⟨U, (["if", "when"] : List Str).map V.str, rfl, .inr (SqT.of upd_same), rfl, strs_flat _, _, rfl, ite2 (fun y => absurd (inv_t y) hsg.1) (fun _ => ?_)⟩
    refine ⟨_, rfl, rfl, _, rfl, iteN hsg.2 ?_⟩
    exact ⟨_, rfl, q _ _ (but_of sU) (hx.keep sU) (.pay (h1.keep (keepT_of sU)) (he.keep (keepT_of sU)))⟩
/-! ### Numbering.numbered -/
theorem step_Numbering_numbered (T : Txt K mg w) {n : Nat} (G : FnOk P w K mg base CX0 (0 + 2 * n) T.a_Numbering_numbered T.d_Numbering_numbered ["self", "block"] (sp_Numbering_numbered T n)) : FnOk P w K mg base CX0 (0 + 2 * n + 2) T.a_Numbering_numbered T.d_Numbering_numbered ["self", "block"] (sp_Numbering_numbered T (n + 1)) := by
  refine T.F_Numbering_numbered.ok sc_Numbering_numbered (fun vs H Q E h => ?_) (fun cdv A outer s H vs Q E hr h => ?_)
  · obtain ⟨x, dx, b, k, ws, ss, ns, ps, rfl, _⟩ := h
    rfl
  obtain ⟨x, dx, b, k, ws, ss, ns, ps, rfl, hx, hb, hv, hw, ln, n10, hz, q⟩ := h
  refine ⟨_, (pss_one (ps_ret (pe_callTy call_tuple_of (by rfl) T.z_tuple (by first | exact PySem.boot_tuple | decide +kernel) (pa_cons (pe_lc (own := [("statement", 2)]) (g := gName 2) (tt := tYes) rfl sc_Numbering_numbered.nd (pi_tup (pv 1)) (blkOk_by (N := N_Numbering_numbered) (sc := defScope s_Numbering_numbered) (by decide +kernel)) (fun _ _ _ _ _ => (pg_name (i := 2) sc_Numbering_numbered.nd rfl (by first | exact Or.inl rfl | exact Or.inr rfl))) (fun _ _ _ _ _ => pts_nil) (fun _ _ _ _ _ => (pe_meth (pv 0) T.cl_Numbering T.me_Numbering_statement (ok_Numbering_statement T G) (hr.mono (by omega)) T.b_Numbering_statement .nil pass0 (pa_cons (pv 2) pa_nil)))) pa_nil)))), ?_⟩
  have hl2 : ws.length = ss.length := Bv.len hv
  have ls := len_sz ss
  have m2 : ("_statement" : Str) ≠ "_count" := by decide +kernel
  refine ⟨_, rfl, b, rfl, ⟨_, hb.sq⟩, fun D hD => ?_⟩
  have nDx : D ≠ x := fun z => by rw [z] at hD; rw [show H x = _ from hx] at hD; cases hD
  refine lc_tup (a := b) (xs := ws) (fun i H2 => But x H H2 ∧ NmgV T.C_Numbering H2 x dx (numbL (ss.take i) k).2 ∧ ∃ pv, H2 D = some (.lst pv) ∧ Bv K H2 pv (numbL (ss.take i) k).1) ⟨but_of (same_upd hD), hx.keep (same_upd hD), [], upd_same, by rw [List.take_zero]; exact .nil⟩ (fun i H2 _ h => (hb.keep (keepT_ins hx h.1)).sq) (fun i v H2 hi h => ?_) (fun H2 h => ?_)
  · obtain ⟨b2, x2, pv, e2, p2⟩ := h
    obtain ⟨s0, hs0, hsv⟩ := hv.get hi
    have l1 := lvL_get hs0
    have z1 := szL_get hs0
    have lp := p2.len
    have ln2 : (numbL (ss.take i) k).1.length ≤ ss.length := by
      rw [numbL_len, List.length_take]
      omega
    refine ⟨rfl, ?_⟩
    refine ⟨_, rfl, x, dx, _, rfl, x2, nm_no m2, _, rfl, x, dx, _, v, s0, ns, ps, rfl, x2, hsv.keep (keepT_ins hx b2), wfL_get hw hs0, by omega, by omega, by omega, fun v' H3 b3 x3 hs3 => ?_⟩
    have e3 := b3 _ _ nDx e2
    have kW := keepT_lst (ys := pv ++ [v']) e3
    have k3 := keepT_ins x2 b3
    refine ⟨pv, e3, small1000 (by omega), fun c o nc e => ?_, ?_, _, upd_same, ?_⟩
    · rw [upd_ne (ne_of_none e hD)]
      exact b3 _ _ nc (b2 _ _ nc e)
    · rw [numbL_take hs0]
      show upd H3 D _ x = _
      rw [upd_ne nDx.symm]
      exact x3
    · rw [numbL_take hs0]
      exact (p2.keep (k3.trans kW)).app (.one (hs3.keep kW))
  obtain ⟨b2, x2, pv, e2, p2⟩ := h
  rw [hl2, List.take_length] at p2 x2
  refine ⟨D, _, rfl, .inl ⟨SqL.of e2, fun ca fc => ?_⟩⟩
  have s3 := same_upd (o := .tup pv) fc
  exact q ca pv _ (b2.trans (but_of s3)) (x2.keep s3) (none_but hx b2 (fun z => by rw [show H2 x = _ from x2] at z; cases z) fc) upd_same (p2.keep (keepT_of s3))
theorem ok_Numbering_numbered (T : Txt K mg w) : ∀ n, FnOk P w K mg base CX0 (0 + 2 * n) T.a_Numbering_numbered T.d_Numbering_numbered ["self", "block"] (sp_Numbering_numbered T n)
  | 0 => ⟨fun vs H Q E h => absurd h (no_Numbering_numbered T vs H Q E), fun A outer s H args us vs Q E _ _ _ _ h => absurd h (no_Numbering_numbered T vs H Q E)⟩
  | n + 1 => step_Numbering_numbered T (ok_Numbering_numbered T n)
/-! ### before@x -/
def FstV (H : Hp) (v : V) (x : Str) : Prop := ∃ u y, v = .ref u ∧ H u = some (.tup [.str x, y])
theorem FstV.keep {H H' : Hp} (k : KeepT H H') {v : V} {x : Str} (h : FstV H v x) : FstV H' v x := by
  obtain ⟨u, y, e, t⟩ := h
  exact ⟨u, y, e, k _ _ t⟩
theorem fst_map {α : Type} {H : Hp} {R : V → (Str × α) → Prop} (h : ∀ v q, R v q → FstV H v q.1) : ∀ {vs : List V} {qs : List (Str × α)}, Paired R vs qs → Paired (FstV H) vs (qs.map (·.1))
  | _, _, .nil => .nil
  | _, _, .cons r t => .cons (h _ _ r) (fst_map h t)
/-- names that both lists have -/
def Clash (a b : List Str) : Prop := ∃ x, x ∈ b ∧ x ∈ a
theorem clash_any (a b : List Str) : ((b.map fun x => decide (x ∈ a)).any id = true) ↔ Clash a b := by
  rw [List.any_map]
  constructor
  · intro h
    obtain ⟨x, m, hx⟩ := List.any_eq_true.mp h
    exact ⟨x, m, of_decide_eq_true hx⟩
  · rintro ⟨x, m, hx⟩
    exact List.any_eq_true.mpr ⟨x, m, decide_eq_true hx⟩
def Clash3 (os os' : List (Str × Bool)) (us us' : List (Str × Int)) (rs rs' : List (Str × List St)) : Prop := Clash (os.map (·.1)) (os'.map (·.1)) ∨ Clash (us.map (·.1)) (us'.map (·.1)) ∨ Clash (rs.map (·.1)) (rs'.map (·.1))
def sp_before_x (T : Txt K mg w) : Sp := fun vs H Q E => ∃ (g1 g2 : Addr) (os os' : List (Str × Bool)) (us us' : List (Str × Int)) (rs rs' : List (Str × List St)), vs = [.ref g1, .ref g2] ∧ GameS K T.C_Game H g1 os us rs ∧ GameS K T.C_Game H g2 os' us' rs' ∧ RdOk rs ∧ RdOk rs' ∧ (os.length ≤ 40 ∧ us.length ≤ 40 ∧ rs.length ≤ 40) ∧ (os'.length ≤ 40 ∧ us'.length ≤ 40 ∧ rs'.length ≤ 40) ∧
  (Clash3 os os' us us' rs rs' → ∀ d H', Same H H' → H' d = some (.xd [("what", .str "names")]) → E (.ref T.C_BadEdit) (some d) H') ∧
  (¬ Clash3 os os' us us' rs rs' → ∀ x H', Same H H' → H x = none → GameS K T.C_Game H' x (os ++ os') (us ++ us') (numbR (rs ++ rs') 0).1 → Q (.ref x) H')
theorem RndV.fst {K : PySem.W.Frag} {H : Hp} {v : V} {q : Str × List St} (h : RndV K H v q) : FstV H v q.1 := by
  obtain ⟨a, b, ws, e, t, _⟩ := h
  exact ⟨a, _, e, t⟩
theorem OptV.fst {H : Hp} {v : V} {q : Str × Bool} (h : OptV H v q) : FstV H v q.1 := by
  obtain ⟨a, e, t⟩ := h
  exact ⟨a, _, e, t⟩
theorem VarV.fst {H : Hp} {v : V} {q : Str × Int} (h : VarV H v q) : FstV H v q.1 := by
  obtain ⟨a, e, t⟩ := h
  exact ⟨a, _, e, t⟩

theorem ok_before_x (T : Txt K mg w) : FnOk P w K mg base (L2.CX P w) 21 T.a_before T.d_before ["game", "other"] (sp_before_x T) := by
  refine T.F_before.okX sc_before (fun vs H Q E h => ?_) (fun cdv A outer s H vs Q E hr h => ?_)
  · obtain ⟨g1, g2, os, os', us, us', rs, rs', rfl, _⟩ := h
    rfl
  obtain ⟨g1, g2, os, os', us, us', rs, rs', rfl, gs1, gs2, hk, hk', ⟨lo, lu, lr⟩, ⟨lo', lu', lr'⟩, qe, q⟩ := h
  refine ⟨_, (pss_cons (ps_set (i := 2) sc_before.nd rfl (by first | exact Or.inl rfl | exact Or.inr rfl) (pe_tup (pa_cons (pe_tup (pa_cons (pe_fld (pv 0) rfl) (pa_cons (pe_fld (pv 1) rfl) pa_nil))) (pa_cons (pe_tup (pa_cons (pe_fld (pv 0) rfl) (pa_cons (pe_fld (pv 1) rfl) pa_nil))) (pa_cons (pe_tup (pa_cons (pe_fld (pv 0) rfl) (pa_cons (pe_fld (pv 1) rfl) pa_nil))) pa_nil)))))
      (pss_cons (ps_for (passes_of rfl) rfl (pi_tup (pv 2)) (pg_tup rfl (pgs_cons (pg_name (i := 3) sc_before.nd rfl (by first | exact Or.inl rfl | exact Or.inr rfl)) (pgs_cons (pg_name (i := 4) sc_before.nd rfl (by first | exact Or.inl rfl | exact Or.inr rfl)) pgs_nil))) (pss_cons (ps_set (i := 5) sc_before.nd rfl (by first | exact Or.inl rfl | exact Or.inr rfl) (pe_lc (own := [("name", 8), ("_", 9)]) (g := gTup K 2 (gCons (gName 8) (gCons (gName 9) gNil))) (tt := tYes) rfl sc_before.nd (pi_tup (pv 3)) (blkOk_by (N := N_before) (sc := defScope s_before) (by decide +kernel)) (fun _ _ _ _ _ => (by exact (pg_tup rfl (pgs_cons (pg_name (i := 8) sc_before.nd rfl (by first | exact Or.inl rfl | exact Or.inr rfl)) (pgs_cons (pg_name (i := 9) sc_before.nd rfl (by first | exact Or.inl rfl | exact Or.inr rfl)) pgs_nil))))) (fun _ _ _ _ _ => pts_nil) (fun _ _ _ _ _ => (by exact (pv 8)))))
      (pss_one (ps_if (pt_truth (pe_callB (cr_any rfl) (by rfl) T.z_any (by first | exact PySem.boot_any | decide +kernel) (pa_cons (pe_lc (own := [("name", 8), ("_", 9)]) (g := gTup K 2 (gCons (gName 8) (gCons (gName 9) gNil))) (tt := tYes) rfl sc_before.nd (pi_tup (pv 4)) (blkOk_by (N := N_before) (sc := defScope s_before) (by decide +kernel)) (fun _ _ _ _ _ => (by exact (pg_tup rfl (pgs_cons (pg_name (i := 8) sc_before.nd rfl (by first | exact Or.inl rfl | exact Or.inr rfl)) (pgs_cons (pg_name (i := 9) sc_before.nd rfl (by first | exact Or.inl rfl | exact Or.inr rfl)) pgs_nil))))) (fun _ _ _ _ _ => pts_nil) (fun _ _ _ _ _ => (by exact (pe_cmpR (show OpR _ (compareOp .In) (rIn K false) from op_in_seq) (pv 8) (pv 5) (by with_unfolding_all rfl))))) pa_nil)) (fun _ => rfl)) (pss_one (ps_raise rfl (takes_of rfl rfl rfl rfl) (pmk_oex T.e_BadEdit.ox T.e_BadEdit.ini T.e_BadEdit.ty (ok_BadEdit_init T) (hr.mono (by decide)) T.b_BadEdit_init .nil pass0 (by rfl) T.m_BadEdit (pa_cons pe_str pa_nil)))) pss_nil))))
      (pss_cons (ps_set (i := 6) sc_before.nd rfl (by first | exact Or.inl rfl | exact Or.inr rfl) (pe_make0 T.mk_Numbering (ok_Numbering_init T) (hr.mono (by decide)) (by rfl) T.m_Numbering T.b_Numbering_init .nil pass0))
      (pss_cons (ps_setLc (i := 7) (own := [("name", 8), ("block", 10)]) (g := gTup K 2 (gCons (gName 8) (gCons (gName 10) gNil))) (tt := tYes) rfl sc_before.nd rfl rfl (sw_true rfl rfl rfl (by decide +kernel)) (pi_list (pe_lst (StX.pa_star (pe_fld (pv 0) rfl) (StX.pa_star (pe_fld (pv 1) rfl) pa_nil)))) (blkOk_by (N := N_before) (sc := defScope s_before) (by decide +kernel)) (fun _ _ _ _ _ => (by exact (pg_tup rfl (pgs_cons (pg_name (i := 8) sc_before.nd rfl (by first | exact Or.inl rfl | exact Or.inr rfl)) (pgs_cons (pg_name (i := 10) sc_before.nd rfl (by first | exact Or.inl rfl | exact Or.inr rfl)) pgs_nil))))) (fun _ _ _ _ _ => pts_nil) (fun _ _ _ _ _ => (by exact (pe_tup (pa_cons (pv 8) (pa_cons (pe_meth (pv 6) T.cl_Numbering T.me_Numbering_numbered (ok_Numbering_numbered T 10) (hr.mono (by decide)) T.b_Numbering_numbered .nil pass0 (pa_cons (pv 10) pa_nil)) pa_nil))))))
      (pss_one (ps_ret (pe_make T.mk_Game (ok_Game_init T) (hr.mono (by decide)) (by rfl) T.m_Game T.b_Game_init .nil pass0 (pa_cons (pe_lst (StX.pa_star (pe_fld (pv 0) rfl) (StX.pa_star (pe_fld (pv 1) rfl) pa_nil))) (pa_cons (pe_lst (StX.pa_star (pe_fld (pv 0) rfl) (StX.pa_star (pe_fld (pv 1) rfl) pa_nil))) (pa_cons (pv 7) pa_nil)))))))))), ?_⟩
  obtain ⟨d1, o, u, r, ov, uv, rv, hg, ho, po, hu, pu, hr1, pr⟩ := id gs1
  obtain ⟨d2, o', u', r', ov', uv', rv', hg', ho', po', hu', pu', hr1', pr'⟩ := id gs2
  refine ⟨_, rfl, g1, T.C_Game, d1, _, _, rfl, hg, T.cl_Game, T.n_Game_options, lk_ix gmNd 0 rfl, _, rfl, g2, T.C_Game, d2, _, _, rfl, hg', T.cl_Game, T.n_Game_options, lk_ix gmNd 0 rfl, by show 2 ≤ sizeLine; decide, fun A1 fA1 => ?_⟩
  have sA1 := same_upd (o := .tup [V.ref o, .ref o']) fA1
  refine ⟨_, rfl, g1, T.C_Game, d1, _, _, rfl, sA1 _ _ hg, T.cl_Game, T.n_Game_variables, lk_ix gmNd 1 rfl, _, rfl, g2, T.C_Game, d2, _, _, rfl, sA1 _ _ hg', T.cl_Game, T.n_Game_variables, lk_ix gmNd 1 rfl, by show 2 ≤ sizeLine; decide, fun A2 fA2 => ?_⟩
  have sA2 := same_upd (o := .tup [V.ref u, .ref u']) fA2
  have s12 := sA1.trans sA2
  refine ⟨_, rfl, g1, T.C_Game, d1, _, _, rfl, s12 _ _ hg, T.cl_Game, T.n_Game_rounds, lk_ix gmNd 2 rfl, _, rfl, g2, T.C_Game, d2, _, _, rfl, s12 _ _ hg', T.cl_Game, T.n_Game_rounds, lk_ix gmNd 2 rfl, by show 2 ≤ sizeLine; decide, fun A3 fA3 => ?_⟩
  have sA3 := same_upd (o := .tup [V.ref r, .ref r']) fA3
  refine ⟨by show 3 ≤ sizeLine; decide, fun S fS => ?_⟩
  have sS := same_upd (o := .tup [V.ref A1, .ref A2, .ref A3]) fS
  have s0S := (s12.trans sA3).trans sS
  have e1 := sS _ _ (sA3 _ _ (sA2 _ _ (upd_same (H := H) (a := A1) (o := .tup [V.ref o, .ref o']))))
  have e2 := sS _ _ (sA3 _ _ (upd_same (H := upd H A1 (.tup [V.ref o, .ref o'])) (a := A2) (o := .tup [V.ref u, .ref u'])))
  have e3 := sS _ _ (upd_same (H := upd (upd H A1 (.tup [V.ref o, .ref o'])) A2 (.tup [V.ref u, .ref u'])) (a := A3) (o := .tup [V.ref r, .ref r']))
  have eS := upd_same (H := upd (upd (upd H A1 (.tup [V.ref o, .ref o'])) A2 (.tup [V.ref u, .ref u'])) A3 (.tup [V.ref r, .ref r'])) (a := S) (o := .tup [V.ref A1, .ref A2, .ref A3])
  revert s0S e1 e2 e3 eS
  generalize upd (upd (upd (upd H A1 (.tup [V.ref o, .ref o'])) A2 (.tup [V.ref u, .ref u'])) A3 (.tup [V.ref r, .ref r'])) S (.tup [V.ref A1, .ref A2, .ref A3]) = H4
  intro s0S e1 e2 e3 eS
  clear sS sA3 s12 sA2 sA1 fS fA3 fA2 fA1
  have k04 := keepT_of s0S
  have gs14 := gs1.same s0S
  have gs24 := gs2.same s0S
  -- the three sorts
  have sort : ∀ i, i < 3 → ∃ (P a b : Addr) (av bv : List V) (xs ys : List Str), [V.ref A1, V.ref A2, V.ref A3][i]? = some (.ref P) ∧ H4 P = some (.tup [.ref a, .ref b]) ∧ H4 a = some (.tup av) ∧ H4 b = some (.tup bv) ∧ Paired (FstV H4) av xs ∧ Paired (FstV H4) bv ys ∧ xs.length ≤ 40 ∧ ys.length ≤ 40 ∧
      (Clash xs ys → Clash3 os os' us us' rs rs') ∧ ((i = 0 → xs = os.map (·.1) ∧ ys = os'.map (·.1)) ∧ (i = 1 → xs = us.map (·.1) ∧ ys = us'.map (·.1)) ∧ (i = 2 → xs = rs.map (·.1) ∧ ys = rs'.map (·.1))) := fun i hi => by
    have : i = 0 ∨ i = 1 ∨ i = 2 := by omega
    rcases this with rfl | rfl | rfl
    · exact ⟨A1, o, o', ov, ov', os.map (·.1), os'.map (·.1), rfl, e1, k04 _ _ ho, k04 _ _ ho', fst_map (fun _ _ y => (OptV.keep k04 y).fst) po, fst_map (fun _ _ y => (OptV.keep k04 y).fst) po', by rw [List.length_map]; exact lo, by rw [List.length_map]; exact lo', .inl, fun _ => ⟨rfl, rfl⟩, (fun z => by omega), (fun z => by omega)⟩
    · exact ⟨A2, u, u', uv, uv', us.map (·.1), us'.map (·.1), rfl, e2, k04 _ _ hu, k04 _ _ hu', fst_map (fun _ _ y => (VarV.keep k04 y).fst) pu, fst_map (fun _ _ y => (VarV.keep k04 y).fst) pu', by rw [List.length_map]; exact lu, by rw [List.length_map]; exact lu', fun c => .inr (.inl c), (fun z => by omega), fun _ => ⟨rfl, rfl⟩, (fun z => by omega)⟩
    · exact ⟨A3, r, r', rv, rv', rs.map (·.1), rs'.map (·.1), rfl, e3, k04 _ _ hr1, k04 _ _ hr1', fst_map (fun _ _ y => (RndV.keep k04 y).fst) pr, fst_map (fun _ _ y => (RndV.keep k04 y).fst) pr', by rw [List.length_map]; exact lr, by rw [List.length_map]; exact lr', fun c => .inr (.inr c), (fun z => by omega), (fun z => by omega), fun _ => ⟨rfl, rfl⟩⟩
  refine ⟨_, rfl, S, rfl, ⟨_, SqT.of eS⟩, for_tup (K := K) (a := S) (xs := [V.ref A1, V.ref A2, V.ref A3]) (fun i σ' H' => ∃ (y1 y2 y3 : Option V), σ' = [some (.ref g1), some (.ref g2), some (.ref S), y1, y2, y3, none, none, none, none, none] ∧ Same H4 H' ∧ (0 < i → ¬ Clash (os.map (·.1)) (os'.map (·.1))) ∧ (1 < i → ¬ Clash (us.map (·.1)) (us'.map (·.1))) ∧ (2 < i → ¬ Clash (rs.map (·.1)) (rs'.map (·.1)))) ⟨_, _, _, rfl, (fun _ _ e => e), (fun z => by omega), (fun z => by omega), (fun z => by omega)⟩ ?_ ?_ ?_⟩
  · rintro i σ' H' _ ⟨_, _, _, rfl, s1, _⟩
    exact SqT.of (s1 _ _ eS)
  · rintro i z σ' H5 hi ⟨y1, y2, y3, rfl, s5, c1, c2, c3⟩
    have i3 : i < 3 := (List.getElem?_eq_some_iff.mp hi).1
    obtain ⟨P, a, b, av, bv, xs, ys, eP, hP, ha, hb, pa, pb, lx, ly, cl, w1, w2, w3⟩ := sort i i3
    rw [hi] at eP
    cases eP
    have la := paired_len pa
    have lb := paired_len pb
    refine ⟨P, _, rfl, SqT.of (s5 _ _ hP), rfl, _, _, rfl, _, _, rfl, rfl, ?_⟩
    refine ⟨_, rfl, a, rfl, ⟨_, SqT.of (s5 _ _ ha)⟩, fun D hD => ?_⟩
    refine lc_tup (a := a) (xs := av) (fun j H6 => Same H5 H6 ∧ H6 D = some (.lst ((xs.take j).map V.str))) ⟨same_upd hD, upd_same⟩ (fun j H6 _ h => SqT.of (h.1 _ _ (s5 _ _ ha))) (fun j v H6 hv h => ?_) (fun H6 h => ?_)
    · obtain ⟨s6, e6⟩ := h
      obtain ⟨x, hx, U2, y, rfl, hU2⟩ := pgetC pa hv
      refine ⟨U2, _, rfl, SqT.of (s6 _ _ (s5 _ _ hU2)), rfl, _, _, rfl, _, _, rfl, rfl, ?_⟩
      refine ⟨rfl, ?_⟩
      refine ⟨_, rfl, ?_⟩
      refine ⟨_, e6, ?_, same_at s6 hD, ?_⟩
      · rw [List.length_map, List.length_take, sizeLine_eq]
        omega
      · rw [upd_same, List.take_add_one, hx, List.map_append]
        rfl
    obtain ⟨s6, e6⟩ := h
    rw [la, List.take_length] at e6
    have s56 := s5.trans s6
    refine ⟨_, rfl, b, rfl, ⟨_, SqT.of (s56 _ _ hb)⟩, fun D2 hD2 => ?_⟩
    refine lc_tup (a := b) (xs := bv) (fun j H7 => Same H6 H7 ∧ H7 D2 = some (.lst (((ys.take j).map fun x => decide (x ∈ xs)).map V.bl))) ⟨same_upd hD2, upd_same⟩ (fun j H7 _ h => SqT.of (h.1 _ _ (s56 _ _ hb))) (fun j v H7 hv h => ?_) (fun H7 h => ?_)
    · obtain ⟨s7, e7⟩ := h
      obtain ⟨x, hx, U2, y, rfl, hU2⟩ := pgetC pb hv
      refine ⟨U2, _, rfl, SqT.of (s7 _ _ (s56 _ _ hU2)), rfl, _, _, rfl, _, _, rfl, rfl, ?_⟩
      refine ⟨rfl, ?_⟩
      refine ⟨_, rfl, _, rfl, D, xs.map V.str, rfl, .inl (SqL.of (s7 _ _ e6)), rfl, strs_flat _, ?_⟩
      refine ⟨_, e7, ?_, same_at s7 hD2, ?_⟩
      · rw [List.length_map, List.length_map, List.length_take, sizeLine_eq]
        omega
      · rw [upd_same, List.take_add_one, hx, List.map_append, List.map_append]
        show some (HO.lst (_ ++ [V.bl (inV (.str x) (xs.map V.str))])) = _
        rw [inV_strs]
        rfl
    obtain ⟨s7, e7⟩ := h
    rw [lb, List.take_length] at e7
    refine ⟨D2, _, rfl, SqL.of e7, _, rfl, ite2 (fun c => ?_) (fun c => ?_)⟩
    · exact raise_ok ⟨_, rfl, by decide +kernel⟩ fun d H8 s8 nd hd => qe (cl ((clash_any _ _).mp c)) d H8 ((s0S.trans s56).trans (s7.trans s8)) hd
    · have nc : ¬ Clash xs ys := fun z => c ((clash_any _ _).mpr z)
      refine ⟨_, _, _, rfl, s56.trans s7, fun z => ?_, fun z => ?_, fun z => ?_⟩
      · by_cases i0 : i = 0
        · obtain ⟨rfl, rfl⟩ := w1 i0
          exact nc
        · exact c1 (by omega)
      · by_cases i0 : i = 1
        · obtain ⟨rfl, rfl⟩ := w2 i0
          exact nc
        · exact c2 (by omega)
      · by_cases i0 : i = 2
        · obtain ⟨rfl, rfl⟩ := w3 i0
          exact nc
        · exact c3 (by omega)
  rintro σ' H5 ⟨y1, y2, y3, rfl, s5, c1, c2, c3⟩
  have nc : ¬ Clash3 os os' us us' rs rs' := by
    rintro (z | z | z)
    · exact c1 (by show 0 < 3; decide) z
    · exact c2 (by show 1 < 3; decide) z
    · exact c3 (by show 2 < 3; decide) z
  have s05 := s0S.trans s5
  have gs15 := gs14.same s5
  have gs25 := gs24.same s5
  clear gs14 gs24 sort c1 c2 c3 e1 e2 e3 eS s5 s0S k04 qe hg ho po hu pu hr1 pr hg' ho' po' hu' pu' hr1' pr'
  refine fun x dx nx ndx nex => ?_
  have sx : Same H5 (upd (upd H5 dx (.own x)) x (.ins T.C_Numbering dx [])) := fun b o e => by rw [upd_ne (ne_of_none e nx), upd_ne (ne_of_none e ndx)]; exact e
  refine ⟨x, dx, rfl, upd_same, fun H6 b6 x6 => ⟨rfl, ?_⟩⟩
  have s6 : Same H5 H6 := fun b o e => b6 b o (ne_of_none e nx) (sx _ _ e)
  have gs16 := gs15.same s6
  have gs26 := gs25.same s6
  have s06 := s05.trans s6
  have nx0 : H x = none := none_back s05 nx
  clear gs15 gs25 b6 sx ndx nex nx s6 s05
  obtain ⟨d1, o, u, r, ov, uv, rv, hg, ho, po, hu, pu, hr1, pr⟩ := id gs16
  obtain ⟨d2, o', u', r', ov', uv', rv', hg', ho', po', hu', pu', hr1', pr'⟩ := id gs26
  have lrv := paired_len pr
  have lrv' := paired_len pr'
  have prr : Paired (RndV K H6) (rv ++ rv') (rs ++ rs') := paired_app pr pr'
  refine ⟨_, rfl, g1, T.C_Game, d1, _, _, rfl, hg, T.cl_Game, T.n_Game_rounds, lk_ix gmNd 2 rfl, r, rv, rfl, .inl (SqT.of hr1), _, rfl, g2, T.C_Game, d2, _, _, rfl, hg', T.cl_Game, T.n_Game_rounds, lk_ix gmNd 2 rfl, r', rv', rfl, .inl (SqT.of hr1'), ?_, fun L fL => ?_⟩
  · rw [List.append_nil, List.length_append]
    exact small_le (by omega)
  rw [List.append_nil]
  have sL := same_upd (o := .lst (rv ++ rv')) fL
  have eL := upd_same (H := H6) (a := L) (o := .lst (rv ++ rv'))
  have x7 := x6.keep sL
  have s07 := s06.trans sL
  have gs17 := gs16.same sL
  have gs27 := gs26.same sL
  have prr7 := L2.Paired.mapP prr fun _ _ z => RndV.keep (keepT_of sL) z
  revert eL x7 s07 gs17 gs27 prr7
  generalize upd H6 L (.lst (rv ++ rv')) = H7
  intro eL x7 s07 gs17 gs27 prr7
  have nLx : L ≠ x := fun z => by rw [z, show H7 x = _ from x7] at eL; cases eL
  clear gs16 gs26 sL fL s06 x6 hg ho po hu pu hr1 pr hg' ho' po' hu' pu' hr1' pr' prr
  refine ⟨L, rfl, ⟨_, SqL.of eL⟩, fun D hD => ?_⟩
  have nDx : D ≠ x := fun z => by rw [z, show H7 x = _ from x7] at hD; cases hD
  have m1 : ("numbered" : Str) ≠ "_count" := by decide +kernel
  refine lc_list (a := L) (xs := rv ++ rv') (fun i H8 => But x H7 H8 ∧ NmgV T.C_Numbering H8 x dx (numbR ((rs ++ rs').take i) 0).2 ∧ ∃ ws, H8 D = some (.lst ws) ∧ Paired (RndV K H8) ws (numbR ((rs ++ rs').take i) 0).1 ∧ ws.length = i) ⟨but_of (same_upd hD), x7.keep (same_upd hD), [], upd_same, .nil, rfl⟩ (fun i H8 _ h => SqL.of (h.1 _ _ nLx eL)) (fun i v H8 hv h => ?_) (fun H8 h => ?_)
  · obtain ⟨b8, x8, ws, e8, p8, l8⟩ := h
    obtain ⟨t, ht, U2, b, zs, rfl, hU2, hb, hbv⟩ := pgetC prr7 hv
    have hkt : (∃ ns ps, WfL ns ps t.2) ∧ NbL t.2 ∧ lvL t.2 ≤ 8 ∧ szL t.2 ≤ 900 := by
      rcases List.mem_append.mp (List.mem_of_getElem? ht) with m | m
      · exact hk t m
      · exact hk' t m
    obtain ⟨⟨ns, ps, w1⟩, w2, w3, w4⟩ := hkt
    have il : i < (rs ++ rs').length := (List.getElem?_eq_some_iff.mp ht).1
    rw [List.length_append] at il
    have k8 := keepT_ins x7 b8
    refine ⟨U2, _, rfl, SqT.of (k8 _ _ hU2), rfl, _, _, rfl, _, _, rfl, rfl, ?_⟩
    refine ⟨rfl, ?_⟩
    refine ⟨_, rfl, _, rfl, x, dx, _, rfl, x8, nm_no m1, _, rfl, x, dx, b, _, zs, t.2, ns, ps, rfl, x8, .inl (k8 _ _ hb), hbv.keep k8, w1, by omega, by decide, w4, fun X pX H9 b9 x9 nX eX bX => ?_⟩
    have k9 := keepT_ins x8 b9
    refine ⟨by show 2 ≤ sizeLine; decide, fun U hU => ?_⟩
    have sU := same_upd (o := .tup [V.str t.1, .ref X]) hU
    have e10 := sU _ _ (b9 _ _ nDx e8)
    have kW := keepT_lst (ys := ws ++ [.ref U]) e10
    have kU := (keepT_of sU).trans kW
    have kA := k9.trans kU
    refine ⟨_, e10, small1000 (by omega), fun c o' nc e => ?_, ?_, _, upd_same, ?_, by rw [List.length_append, l8]; rfl⟩
    · rw [upd_ne (ne_of_none e hD)]
      exact sU _ _ (b9 _ _ nc (b8 _ _ nc e))
    · rw [numbR_take ht]
      show upd _ D _ x = _
      rw [upd_ne nDx.symm]
      exact sU _ _ x9
    · rw [numbR_take ht]
      exact paired_snocC (L2.Paired.mapP p8 fun _ _ z => RndV.keep kA z) ⟨U, X, pX, rfl, kW _ _ upd_same, kU _ _ eX, bX.keep kU⟩
  obtain ⟨b8, x8, ws, e8, p8, l8⟩ := h
  rw [paired_len prr7, List.take_length] at p8
  rw [paired_len prr7, List.length_append] at l8
  have bx : Same H H8 := fun b o e => b8 b o (ne_of_none e nx0) (s07 _ _ e)
  have k8 := keepT_ins x7 b8
  have keepG : ∀ {g : Addr} {os : List (Str × Bool)} {us : List (Str × Int)} {rs : List (Str × List St)}, GameS K T.C_Game H7 g os us rs → g ≠ x → GameS K T.C_Game H8 g os us rs := fun h ng => by
    obtain ⟨dx, o, u, r, ov, uv, rv, hg, ho, po, hu, pu, hr, pr⟩ := h
    exact ⟨dx, o, u, r, ov, uv, rv, b8 _ _ ng hg, k8 _ _ ho, L2.Paired.mapP po fun _ _ y => y.keep k8, k8 _ _ hu, L2.Paired.mapP pu fun _ _ y => y.keep k8, k8 _ _ hr, L2.Paired.mapP pr fun _ _ y => y.keep k8⟩
  have gx : ∀ {g : Addr} {os : List (Str × Bool)} {us : List (Str × Int)} {rs : List (Str × List St)}, GameS K T.C_Game H g os us rs → g ≠ x := fun h z => by
    obtain ⟨dx, o, u, r, ov, uv, rv, hg, _⟩ := h
    rw [z, nx0] at hg
    cases hg
  obtain ⟨d1, o, u, r, ov, uv, rv2, hg, ho, po, hu, pu, hr1, pr⟩ := keepG gs17 (gx gs1)
  obtain ⟨d2, o', u', r', ov', uv', rv2', hg', ho', po', hu', pu', hr1', pr'⟩ := keepG gs27 (gx gs2)
  have l1 := paired_len po
  have l2 := paired_len po'
  have l3 := paired_len pu
  have l4 := paired_len pu'
  refine ⟨_, rfl, g1, T.C_Game, d1, _, _, rfl, hg, T.cl_Game, T.n_Game_options, lk_ix gmNd 0 rfl, o, ov, rfl, .inl (SqT.of ho), _, rfl, g2, T.C_Game, d2, _, _, rfl, hg', T.cl_Game, T.n_Game_options, lk_ix gmNd 0 rfl, o', ov', rfl, .inl (SqT.of ho'), ?_, fun M1 f1 => ?_⟩
  · rw [List.append_nil, List.length_append]
    exact small_le (by omega)
  rw [List.append_nil]
  have t1 := same_upd (o := .lst (ov ++ ov')) f1
  refine ⟨_, rfl, g1, T.C_Game, d1, _, _, rfl, t1 _ _ hg, T.cl_Game, T.n_Game_variables, lk_ix gmNd 1 rfl, u, uv, rfl, .inl (SqT.of (t1 _ _ hu)), _, rfl, g2, T.C_Game, d2, _, _, rfl, t1 _ _ hg', T.cl_Game, T.n_Game_variables, lk_ix gmNd 1 rfl, u', uv', rfl, .inl (SqT.of (t1 _ _ hu')), ?_, fun M2 f2 => ?_⟩
  · rw [List.append_nil, List.length_append]
    exact small_le (by omega)
  rw [List.append_nil]
  have t2 := t1.trans (same_upd (o := .lst (uv ++ uv')) f2)
  have k2 := keepT_of t2
  refine ⟨_, rfl, ?_⟩
  exact make_gameL T (.inl (same_upd f2 _ _ upd_same)) (L2.Paired.mapP (paired_app po po') fun _ _ z => OptV.keep k2 z) (by rw [List.length_append]; omega) (.inl upd_same) (L2.Paired.mapP (paired_app pu pu') fun _ _ z => VarV.keep k2 z) (by rw [List.length_append]; omega) (.inl (t2 _ _ e8)) (L2.Paired.mapP p8 fun _ _ z => RndV.keep k2 z) (by rw [← paired_len p8]; omega) fun g H9 s9 n9 g9 => q nc g H9 (bx.trans (t2.trans s9)) (none_back (bx.trans t2) n9) g9
/-! ### switched@x -/
def swc (ns : List Str) (os : List (Str × Bool)) : List (Str × Bool) := os.map fun q => (q.1, q.2 != decide (q.1 ∈ ns))
/-- the options are named rightly: each is one, none is named twice -/
def SwOk (known : List Str) (ns : List Str) : Prop := ∀ i x, ns[i]? = some x → x ∈ known ∧ x ∉ ns.take i
def sp_switched_x (T : Txt K mg w) : Sp := fun vs H Q E => ∃ (g pn : Addr) (os : List (Str × Bool)) (us : List (Str × Int)) (rs : List (Str × List St)) (ns : List Str), vs = [.ref g, .ref pn] ∧ GameS K T.C_Game H g os us rs ∧ H pn = some (.lst (ns.map V.str)) ∧ ns.length ≤ 40 ∧ os.length ≤ 40 ∧ us.length ≤ 40 ∧ rs.length ≤ 40 ∧
  (¬ SwOk (os.map (·.1)) ns → ∀ d H', Same H H' → H' d = some (.xd [("what", .str "options")]) → E (.ref T.C_BadEdit) (some d) H') ∧
  (SwOk (os.map (·.1)) ns → ∀ x H', Same H H' → H x = none → GameS K T.C_Game H' x (swc ns os) us rs → Q (.ref x) H')
theorem swc_take {ns : List Str} {os : List (Str × Bool)} {i : Nat} {t : Str × Bool} (h : os[i]? = some t) : swc ns (os.take (i + 1)) = swc ns (os.take i) ++ [(t.1, t.2 != decide (t.1 ∈ ns))] := by
  unfold swc
  rw [List.take_add_one, h, List.map_append]
  rfl
theorem cut_takeN {xs : List V} {n : Nat} (h : n ≤ xs.length) : cutV xs none (some ((n : Nat) : Int)) = xs.take n := by
  unfold cutV HT.sIx
  have z : ¬ ((n : Nat) : Int) < 0 := by omega
  simp [z]

theorem ok_switched_x (T : Txt K mg w) : FnOk P w K mg base (L2.CX P w) 4 T.a_switched T.d_switched ["game", "names"] (sp_switched_x T) := by
  refine T.F_switched.okX sc_switched (fun vs H Q E h => ?_) (fun cdv A outer s H vs Q E hr h => ?_)
  · obtain ⟨g, pn, os, us, rs, ns, rfl, _⟩ := h
    rfl
  obtain ⟨g, pn, os, us, rs, ns, rfl, gs, hn, ln, lo, lu, lr, qe, q⟩ := h
  refine ⟨_, (pss_cons (ps_setLc (i := 2) (own := [("name", 4), ("_", 5)]) (g := gTup K 2 (gCons (gName 4) (gCons (gName 5) gNil))) (tt := tYes) rfl sc_switched.nd rfl rfl (sw_true rfl rfl rfl (by decide +kernel)) (pi_tup (pe_fld (pv 0) rfl)) (blkOk_by (N := N_switched) (sc := defScope s_switched) (by decide +kernel)) (fun _ _ _ _ _ => (by exact (pg_tup rfl (pgs_cons (pg_name (i := 4) sc_switched.nd rfl (by first | exact Or.inl rfl | exact Or.inr rfl)) (pgs_cons (pg_name (i := 5) sc_switched.nd rfl (by first | exact Or.inl rfl | exact Or.inr rfl)) pgs_nil))))) (fun _ _ _ _ _ => pts_nil) (fun _ _ _ _ _ => (by exact (pv 4))))
      (pss_cons (ps_for (passes_of rfl) rfl (pi_enum (by rfl) T.z_enumerate (pa_cons (pv 1) pa_nil)) (pg_tup rfl (pgs_cons (pg_name (i := 3) sc_switched.nd rfl (by first | exact Or.inl rfl | exact Or.inr rfl)) (pgs_cons (pg_name (i := 4) sc_switched.nd rfl (by first | exact Or.inl rfl | exact Or.inr rfl)) pgs_nil))) (pss_one (ps_if (PW.pt (pw_or (pt_cmpR op_notIn_seq (pv 4) (pv 2) (by with_unfolding_all rfl)) (pw_or1 (pt_cmpR op_in_seq (pv 4) (pe_slice sl_list (pv 1) po_none (po_some (pv 3))) (by with_unfolding_all rfl))))) (pss_one (ps_raise rfl (takes_of rfl rfl rfl rfl) (pmk_oex T.e_BadEdit.ox T.e_BadEdit.ini T.e_BadEdit.ty (ok_BadEdit_init T) (hr.mono (by decide)) T.b_BadEdit_init .nil pass0 (by rfl) T.m_BadEdit (pa_cons pe_str pa_nil)))) pss_nil)))
      (pss_one (ps_ret (pe_make T.mk_Game (ok_Game_init T) (hr.mono (by decide)) (by rfl) T.m_Game T.b_Game_init .nil pass0 (pa_cons (pe_lc (own := [("name", 4), ("on", 6)]) (g := gTup K 2 (gCons (gName 4) (gCons (gName 6) gNil))) (tt := tYes) rfl sc_switched.nd (pi_tup (pe_fld (pv 0) rfl)) (blkOk_by (N := N_switched) (sc := defScope s_switched) (by decide +kernel)) (fun _ _ _ _ _ => (by exact (pg_tup rfl (pgs_cons (pg_name (i := 4) sc_switched.nd rfl (by first | exact Or.inl rfl | exact Or.inr rfl)) (pgs_cons (pg_name (i := 6) sc_switched.nd rfl (by first | exact Or.inl rfl | exact Or.inr rfl)) pgs_nil))))) (fun _ _ _ _ _ => pts_nil) (fun _ _ _ _ _ => (by exact (pe_tup (pa_cons (pv 4) (pa_cons (pe_ifExp (pt_cmpR (show OpR _ (compareOp .In) (rIn K false) from op_in_seq) (pv 4) (pv 1) (by with_unfolding_all rfl)) (pe_not (pv 6)) (pv 6)) pa_nil)))))) (pa_cons (pe_fld (pv 0) rfl) (pa_cons (pe_fld (pv 0) rfl) pa_nil)))))))), ?_⟩
  obtain ⟨d1, o, u, r, ov, uv, rv, hg, ho, po, hu, pu, hr1, pr⟩ := id gs
  have lov := paired_len po
  refine ⟨_, rfl, g, T.C_Game, d1, _, _, rfl, hg, T.cl_Game, T.n_Game_options, lk_ix gmNd 0 rfl, o, rfl, ⟨_, SqT.of ho⟩, fun D hD => ?_⟩
  refine lc_tup (a := o) (xs := ov) (fun j H6 => Same H H6 ∧ H6 D = some (.lst (((os.take j).map (·.1)).map V.str))) ⟨same_upd hD, upd_same⟩ (fun j H6 _ h => SqT.of (h.1 _ _ ho)) (fun j v H6 hv h => ?_) (fun H6 h => ?_)
  · obtain ⟨s6, e6⟩ := h
    obtain ⟨t, ht, U2, rfl, hU2⟩ := pgetC po hv
    refine ⟨U2, _, rfl, SqT.of (s6 _ _ hU2), rfl, _, _, rfl, _, _, rfl, rfl, ?_⟩
    refine ⟨rfl, ?_⟩
    refine ⟨_, rfl, ?_⟩
    refine ⟨_, e6, ?_, same_at s6 hD, ?_⟩
    · rw [List.length_map, List.length_map, List.length_take, sizeLine_eq]
      omega
    · rw [upd_same, List.take_add_one, ht, List.map_append, List.map_append]
      rfl
  obtain ⟨s6, e6⟩ := h
  rw [lov, List.take_length] at e6
  have hn6 := s6 _ _ hn
  refine ⟨_, rfl, pn, _, rfl, SqL.of hn6, ?_⟩
  refine for_it (walk_enum (K := K) (a := pn) (xs := ns.map V.str)) (fun i σ' H' => ∃ (y1 y2 : Option V), σ' = [some (.ref g), some (.ref pn), some (.ref D), y1, y2, none, none] ∧ Same H6 H' ∧ ∀ j x, j < i → ns[j]? = some x → x ∈ os.map (·.1) ∧ x ∉ ns.take j) ⟨_, _, rfl, (fun _ _ e => e), fun j x h => absurd h (Nat.not_lt_zero j)⟩ ?_ ?_ ?_
  · rintro i σ' H' _ ⟨_, _, rfl, s1, _⟩
    exact SqL.of (s1 _ _ hn6)
  · rintro i z σ' H7 H8 hi ⟨y1, y2, rfl, s7, hj⟩ ⟨P, x1, x2, rfl, nP, rfl, ex1, ex2⟩
    rw [List.length_map] at hi
    cases ex1
    obtain ⟨x, hx, rfl⟩ := str_of_map ex2
    have sP := same_upd (o := .tup [V.int ((i : Nat) : Int), .str x]) nP
    have s78 := s7.trans sP
    refine ⟨P, _, rfl, SqT.of upd_same, rfl, _, _, rfl, _, _, rfl, rfl, ?_⟩
    have bad : ¬ (x ∈ os.map (·.1) ∧ x ∉ ns.take i) → ∀ {H9 : Hp}, Same H6 H9 → ∀ d H', Same H9 H' → H' d = some (.xd [("what", .str "options")]) → E (.ref T.C_BadEdit) (some d) H' := fun nb {H9} s9 d H' s' hd => qe (fun ok => nb (ok i x hx)) d H' (s6.trans (s9.trans s')) hd
    refine ⟨_, rfl, _, rfl, D, (os.map (·.1)).map V.str, rfl, .inl (SqL.of (s78 _ _ e6)), rfl, strs_flat _, _, rfl, ite2 (fun c => ?_) (fun c => ?_)⟩
    · refine iteT ?_
      exact raise_ok ⟨_, rfl, by decide +kernel⟩ fun d H9 s9 nd hd => bad (fun b => not_in c b.1) s78 d H9 s9 hd
    · have c' : x ∈ os.map (·.1) := by
        rw [inV_strs] at c
        exact Classical.byContradiction fun z => c (by rw [decide_eq_false z]; rfl)
      refine ⟨_, rfl, _, rfl, _, rfl, _, rfl, pn, _, rfl, SqL.of (s78 _ _ hn6), fun B fB => ?_⟩
      have eB : cutV (ns.map V.str) none (some ((i : Nat) : Int)) = (ns.take i).map V.str := by
        rw [cut_takeN (by rw [List.length_map]; omega), List.map_take]
      rw [eB]
      have sB := same_upd (o := .lst ((ns.take i).map V.str)) fB
      refine ⟨B, (ns.take i).map V.str, rfl, .inl (SqL.of upd_same), rfl, strs_flat _, _, rfl, ite2 (fun c2 => ?_) (fun c2 => ?_)⟩
      · exact raise_ok ⟨_, rfl, by decide +kernel⟩ fun d H9 s9 nd hd => bad (fun b => b.2 (inv_t c2)) (s78.trans sB) d H9 s9 hd
      · refine ⟨_, _, rfl, s78.trans sB, fun j y lj ey => ?_⟩
        by_cases e : j = i
        · subst e
          rw [hx] at ey
          cases ey
          exact ⟨c', inv_f c2⟩
        · exact hj j y (by omega) ey
  rintro σ' H7 ⟨y1, y2, rfl, s7, hj⟩
  rw [List.length_map] at hj
  have ok : SwOk (os.map (·.1)) ns := fun i x e => hj i x (List.getElem?_eq_some_iff.mp e).1 e
  have s67 := s6.trans s7
  have hn7 := s7 _ _ hn6
  refine ⟨_, rfl, g, T.C_Game, d1, _, _, rfl, s67 _ _ hg, T.cl_Game, T.n_Game_options, lk_ix gmNd 0 rfl, o, rfl, ⟨_, SqT.of (s67 _ _ ho)⟩, fun D2 hD2 => ?_⟩
  refine lc_tup (a := o) (xs := ov) (fun j H8 => Same H7 H8 ∧ ∃ ws, H8 D2 = some (.lst ws) ∧ Paired (OptV H8) ws (swc ns (os.take j))) ⟨same_upd hD2, [], upd_same, .nil⟩ (fun j H8 _ h => SqT.of (h.1 _ _ (s67 _ _ ho))) (fun j v H8 hv h => ?_) (fun H8 h => ?_)
  · obtain ⟨s8, ws, e8, p8⟩ := h
    obtain ⟨t, ht, U2, rfl, hU2⟩ := pgetC po hv
    have l2 := (paired_len p8).trans (by unfold swc; rw [List.length_map, List.length_take])
    refine ⟨U2, _, rfl, SqT.of (s8 _ _ (s67 _ _ hU2)), rfl, _, _, rfl, _, _, rfl, rfl, ?_⟩
    refine ⟨rfl, ?_⟩
    have fin : ∀ b : Bool, b = (t.2 != decide (t.1 ∈ ns)) → [V.str t.1, V.bl b].length ≤ sizeLine ∧ ∀ U, H8 U = none → ∃ acc, upd H8 U (.tup [V.str t.1, .bl b]) D2 = some (.lst acc) ∧ acc.length < sizeLine ∧ (Same H7 (upd (upd H8 U (.tup [V.str t.1, .bl b])) D2 (.lst (acc ++ [.ref U]))) ∧ ∃ ws, upd (upd H8 U (.tup [V.str t.1, .bl b])) D2 (.lst (acc ++ [.ref U])) D2 = some (.lst ws) ∧ Paired (OptV (upd (upd H8 U (.tup [V.str t.1, .bl b])) D2 (.lst (acc ++ [.ref U])))) ws (swc ns (os.take (j + 1)))) := fun b eb => by
      refine ⟨by show 2 ≤ sizeLine; decide, fun U hU => ?_⟩
      have sU := same_upd (o := .tup [V.str t.1, .bl b]) hU
      have nU : U ≠ D2 := (ne_of_none e8 hU).symm
      have kU := (keepT_of sU).trans (keepT_lst (ys := ws ++ [.ref U]) (sU _ _ e8))
      refine ⟨_, sU _ _ e8, small1000 (by omega), fun c o' e => ?_, _, upd_same, ?_⟩
      · rw [upd_ne (ne_of_none e hD2)]
        exact sU _ _ (s8 _ _ e)
      · rw [swc_take ht]
        exact paired_snocC (L2.Paired.mapP p8 fun _ _ z => OptV.keep kU z) ⟨U, rfl, by rw [upd_ne nU, ← eb]; exact upd_same⟩
    refine ⟨_, rfl, _, rfl, _, rfl, pn, ns.map V.str, rfl, .inl (SqL.of (s8 _ _ hn7)), rfl, strs_flat _, _, rfl, ite2 (fun c => ?_) (fun c => ?_)⟩
    · refine ⟨_, rfl, _, rfl, ?_⟩
      exact fin _ (by rw [decide_eq_true (inv_t c)]; cases t.2 <;> rfl)
    · refine ⟨_, rfl, ?_⟩
      exact fin _ (by rw [decide_eq_false (inv_f c)]; cases t.2 <;> rfl)
  obtain ⟨s8, ws, e8, p8⟩ := h
  rw [lov, List.take_length] at p8
  have s08 := s67.trans s8
  have k8 := keepT_of s08
  refine ⟨_, rfl, g, T.C_Game, d1, _, _, rfl, s08 _ _ hg, T.cl_Game, T.n_Game_variables, lk_ix gmNd 1 rfl, _, rfl, g, T.C_Game, d1, _, _, rfl, s08 _ _ hg, T.cl_Game, T.n_Game_rounds, lk_ix gmNd 2 rfl, ?_⟩
  exact make_gameL T (.inl e8) p8 (by unfold swc; rw [List.length_map]; omega) (.inr (k8 _ _ hu)) (L2.Paired.mapP pu fun _ _ z => VarV.keep k8 z) (by omega) (.inr (k8 _ _ hr1)) (L2.Paired.mapP pr fun _ _ z => RndV.keep k8 z) (by omega) fun x H9 s9 n9 g9 => q ok x H9 (s08.trans s9) (none_back s08 n9) g9
/-! ### _law_pool -/
theorem take_map_snoc {α β : Type} (f : α → β) {xs : List α} {i : Nat} {x : α} (e : xs[i]? = some x) : (xs.take (i + 1)).map f = (xs.take i).map f ++ [f x] := by
  rw [List.take_add_one, e, List.map_append]
  rfl
theorem DaK.mkL {K : PySem.W.Frag} {H : Hp} {a : Addr} {xs : List V} {ds : List PyData} (h : H a = some (.lst xs)) (p : Paired (DaK K H) xs ds) : DaK K H (.ref a) (.list ds) := by
  refine .lst h p.length ?_
  clear h
  intro i v d h1 h2
  induction p generalizing i with
  | nil => simp at h1
  | cons r t ih =>
    cases i with
    | zero => cases h1; cases h2; exact r
    | succ i => exact ih i (by rw [List.getElem?_cons_succ] at h1; exact h1) (by rw [List.getElem?_cons_succ] at h2; exact h2)
theorem OptV.da {K : PySem.W.Frag} {H : Hp} {v : V} {q : Str × Bool} (h : OptV H v q) : DaK K H v (optD q) := by
  obtain ⟨a, rfl, t⟩ := h
  exact .mk (.inl t) (.cons (.str _) (.cons (.bl _) .nil))
theorem VarV.da {K : PySem.W.Frag} {H : Hp} {v : V} {q : Str × Int} (h : VarV H v q) : DaK K H v (varD q) := by
  obtain ⟨a, rfl, t⟩ := h
  exact .mk (.inl t) (.cons (.str _) (.cons (.int _) .nil))
theorem RndV.da {K : PySem.W.Frag} {H : Hp} {v : V} {q : Str × List St} (h : RndV K H v q) : DaK K H v (rndD q) := by
  obtain ⟨a, b, ws, rfl, t, u, w⟩ := h
  exact .mk (.inl t) (.cons (.str _) (.cons (.mk (.inl u) w.da) .nil))
theorem da_map {α : Type} {K : PySem.W.Frag} {H : Hp} {R : V → α → Prop} {f : α → PyData} (h : ∀ v x, R v x → DaK K H v (f x)) {vs : List V} {xs : List α} (p : Paired R vs xs) : Paired (DaK K H) vs (xs.map f) := by
  induction p with
  | nil => exact .nil
  | cons r _ ih => exact .cons (h _ _ r) ih
/-- the data of a game, as a list -/
def gameDt (os : List (Str × Bool)) (us : List (Str × Int)) (rs : List (Str × List St)) : List PyData := [.tuple (os.map optD), .tuple (us.map varD), .tuple (rs.map rndD)]
mutual
theorem sz_words : ∀ s : St, s.sz ≤ s.words.length
  | .ite e t f => by
    have h1 := sz_wordsL t
    have h2 := sz_wordsL f
    have h3 : (branchW t f).length = (blockW t).length + ((if f = [] then [] else (("else" : Str) :: blockW f)).length + 1) := by
      unfold branchW
      rw [List.length_append, List.length_append]
      rfl
    have h4 : szL f ≤ (if f = [] then [] else (("else" : Str) :: blockW f)).length := by
      split
      · rename_i z
        rw [z]
        exact Nat.le_refl _
      · rw [List.length_cons]
        omega
    show 1 + szL t + szL f ≤ (e.words ++ branchW t f).length + 1
    rw [List.length_append]
    omega
  | .whn o t f => by
    have h1 := sz_wordsL t
    have h2 := sz_wordsL f
    have h3 : (branchW t f).length = (blockW t).length + ((if f = [] then [] else (("else" : Str) :: blockW f)).length + 1) := by
      unfold branchW
      rw [List.length_append, List.length_append]
      rfl
    have h4 : szL f ≤ (if f = [] then [] else (("else" : Str) :: blockW f)).length := by
      split
      · rename_i z
        rw [z]
        exact Nat.le_refl _
      · rw [List.length_cons]
        omega
    show 1 + szL t + szL f ≤ (branchW t f).length + 1 + 1
    omega
  | .set _ e => by show 1 ≤ e.words.length + 1 + 1; omega
  | .draw _ _ => by show 1 ≤ 3; omega
  | .move _ _ _ _ => by show 1 ≤ 3; omega
  | .show _ e => by show 1 ≤ e.words.length + 1 + 1; omega
  | .pay _ e => by show 1 ≤ e.words.length + 1; omega
theorem sz_wordsL : ∀ ss : List St, szL ss ≤ (blockW ss).length
  | [] => Nat.le_refl _
  | s :: r => by
    have h1 := sz_words s
    have h2 := sz_wordsL r
    show s.sz + szL r ≤ (s.words ++ blockW r).length
    rw [List.length_append]
    omega
end
theorem wide_map {α : Type} {f : α → PyData} : ∀ {xs : List α}, (∀ x ∈ xs, wide (f x) = true) → wideAll (xs.map f) = true
  | [], _ => by simp [wideAll]
  | x :: r, h => by
    have := wide_map (f := f) (xs := r) fun y m => h y (List.mem_cons_of_mem _ m)
    simp [wideAll, h x List.mem_cons_self, this]
theorem fl_get {α : Type} {f : α → List Str} : ∀ {xs : List α} {i : Nat} {x : α}, xs[i]? = some x → (f x).length ≤ (fl f xs).length
  | [], _, _, h => by simp at h
  | y :: ys, 0, _, e => by
    cases e
    rw [fl_cons, List.length_append]
    omega
  | y :: ys, i + 1, x, e => by
    have := fl_get (f := f) (xs := ys) (i := i) (x := x) (by rw [List.getElem?_cons_succ] at e; exact e)
    rw [fl_cons, List.length_append]
    omega
theorem fl_mem {α : Type} {f : α → List Str} {xs : List α} {x : α} (m : x ∈ xs) : (f x).length ≤ (fl f xs).length := by
  obtain ⟨i, hi⟩ := List.getElem?_of_mem m
  exact fl_get hi
theorem gameDt_ok {os : List (Str × Bool)} {us : List (Str × Int)} {rs : List (Str × List St)} (h : GOk os us rs) (hl : (gameW os us rs).length ≤ 400) : (PyData.list (gameDt os us rs)).depth < 40 ∧ wide (.list (gameDt os us rs)) = true := by
  have lay := h.lay
  have d1 := dep_map (f := optD) (n := 1) (xs := os) fun q _ => by simp [optD, PyData.depth, PyData.depthAll]
  have d2 := dep_map (f := varD) (n := 1) (xs := us) fun q _ => by simp [varD, PyData.depth, PyData.depthAll]
  have d3 := dep_map (f := rndD) (n := 32) (xs := rs) fun q m => by
    have := (lay.r q m).2.2
    simp only [rndD, PyData.depth, PyData.depthAll]
    omega
  have o6 := h.o6
  have u12 := h.u12
  have r8 := h.r8
  have gl : (gameW os us rs).length = (fl optW os).length + ((fl varW us).length + (fl rndW rs).length) := by
    unfold gameW
    rw [List.length_append, List.length_append]
  have w1 := wide_map (f := optD) (xs := os) fun q _ => by simp [optD, wide, wideAll]
  have w2 := wide_map (f := varD) (xs := us) fun q _ => by simp [varD, wide, wideAll]
  have w3 := wide_map (f := rndD) (xs := rs) fun q m => by
    have h1 := sz_wordsL q.2
    have h2 := fl_mem (f := rndW) m
    have h3 : (rndW q).length = (blockW q.2).length + 3 := by
      show (blockW q.2 ++ (["end"] : List Str)).length + 1 + 1 = _
      rw [List.length_append]
      rfl
    have h4 := ldat_wide q.2 (by omega)
    have h5 := len_sz q.2
    have h6 : (datL q.2).length ≤ 1000000 := by rw [datL_len]; omega
    simp [rndD, wide, wideAll, h4, h6]
  refine ⟨?_, ?_⟩
  · simp only [gameDt, PyData.depth, PyData.depthAll]
    omega
  · have l1 : os.length ≤ 1000000 := by omega
    have l2 : us.length ≤ 1000000 := by omega
    have l3 : rs.length ≤ 1000000 := by omega
    simp [gameDt, wide, wideAll, w1, w2, w3, l1, l2, l3]
def sp_law_pool (T : Txt K mg w) : Sp := fun vs H Q _ => ∃ (a : Addr) (ns : List Int) (b : Int), vs = [.ref a, .int b] ∧ SqL K H a (ns.map V.int) ∧ ∀ (p c : Addr) (H' : Hp), Same H H' → H p = none → H c = none → Pool H' p c b → Q (.ref p) H'


theorem ok_law_pool (T : Txt K mg w) : FnOk P w K mg base CX0 1 T.a_law_pool T.d_law_pool ["script", "budget"] (sp_law_pool T) := by
  refine T.F_law_pool.ok sc_law_pool (fun vs H Q E h => ?_) (fun cdv A outer s H vs Q E hr h => ?_)
  · obtain ⟨a, ns, b, rfl, _⟩ := h
    rfl
  obtain ⟨a, ns, b, rfl, hS, q⟩ := h
  refine ⟨_, (pss_one (ps_ret (pe_lst (pa_cons (pe_callTy call_list_of (by rfl) T.z_list (by first | exact PySem.boot_list | decide +kernel) (pa_cons (pv 0) pa_nil)) (pa_cons pe_int (pa_cons pe_int (pa_cons pe_int (pa_cons pe_int (pa_cons (pv 1) pa_nil))))))))), ?_⟩
  refine ⟨_, rfl, a, _, rfl, .inl hS, fun c hc => ⟨_, rfl, by show 6 ≤ sizeLine; decide, fun p hp => ?_⟩⟩
  refine q p c _ (upd2_same hc hp) ((same_upd hc).free hp) hc ⟨ns, 0, 0, 1, 0, upd_same, same_upd hp _ _ upd_same, Int.le_refl 0, fun z => ?_⟩
  rw [z] at hp
  rw [upd_same] at hp
  cases hp
/-! ### _law_draw -/
def sp_law_draw (T : Txt K mg w) : Sp := fun vs H Q _ => ∃ (p c : Addr) (n b : Int), vs = [.ref p, .int n] ∧ 0 < n ∧ n < 1073741824 ∧ Pool H p c b ∧ ∀ (k : Int) (H' : Hp), 0 ≤ k → k < n → But p H H' → Pool H' p c b → Q (.int k) H'

theorem ok_law_draw (T : Txt K mg w) : FnOk P w K mg base CX0 1 T.a_law_draw T.d_law_draw ["pool", "size"] (sp_law_draw T) := by
  refine T.F_law_draw.ok sc_law_draw (fun vs H Q E h => ?_) (fun cdv A outer s H vs Q E hr h => ?_)
  · obtain ⟨p, c, n, b, rfl, _⟩ := h
    rfl
  obtain ⟨p, c, n, b, rfl, hn, hn2, hP, q⟩ := h
  have hP0 := hP
  obtain ⟨ns, i, r, u, t, hp, hc, hi, hcp⟩ := hP
  refine ⟨_, (C8.pss_cut (ps_if (PW.pt (pw_and (pt_cmpR op_le (pe_ix ix_list (pv 0) pe_int (fun _ _ => rfl)) pe_int (nomark _)) (pw_and (pt_cmpR op_le (pe_ix ix_list (pv 0) pe_int (fun _ _ => rfl)) pe_int (nomark _)) (pw_and1 (pt_cmpR op_lt (pe_ix ix_list (pv 0) pe_int (fun _ _ => rfl)) (pe_callB call_len_seq (by rfl) T.z_len (by first | exact PySem.boot_len | decide +kernel) (pa_cons (pe_ix ix_list (pv 0) pe_int (fun _ _ => rfl)) pa_nil)) (nomark _)))))) (pss_cons (ps_set (i := 2) sc_law_draw.nd rfl (by first | exact Or.inl rfl | exact Or.inr rfl) (pe_ix ix_list (pe_ix ix_list (pv 0) pe_int (fun _ _ => rfl)) (pe_ix ix_list (pv 0) pe_int (fun _ _ => rfl)) (fun _ _ => rfl)))
      (pss_cons (ps_asg (pe_op op_add (pe_ix ix_list (pv 0) pe_int (fun _ _ => rfl)) pe_int) (pg_sub (pv 0) pe_int set_list))
      (pss_cons (ps_asg (pe_op op_mod (pe_callTy call_int1 (by rfl) T.z_int (by first | exact PySem.boot_int | decide +kernel) (pa_cons (pe_op op_add (pe_op op_mul (pe_ix ix_list (pv 0) pe_int (fun _ _ => rfl)) pe_int) (pv 2)) pa_nil)) pe_int) (pg_sub (pv 0) pe_int set_list))
      (pss_cons (ps_asg pe_int (pg_sub (pv 0) pe_int set_list))
      (pss_one (ps_if (pt_cmpR op_ge (pv 2) (pe_op op_pow pe_int pe_int) (nomark _)) (pss_one (ps_asg (pv 2) (pg_sub (pv 0) pe_int set_list))) pss_nil)))))) pss_nil)
      (pss_cons (ps_if (pt_cmpR op_gt (pe_ix ix_list (pv 0) pe_int (fun _ _ => rfl)) pe_int (nomark _)) (pss_cons (ps_set (i := 3) sc_law_draw.nd rfl (by first | exact Or.inl rfl | exact Or.inr rfl) (pe_op op_mod (pe_callTy call_int1 (by rfl) T.z_int (by first | exact PySem.boot_int | decide +kernel) (pa_cons (pe_ix ix_list (pv 0) pe_int (fun _ _ => rfl)) pa_nil)) (pv 1)))
      (pss_cons (ps_asg (pe_op op_fdiv (pe_ix ix_list (pv 0) pe_int (fun _ _ => rfl)) (pv 1)) (pg_sub (pv 0) pe_int set_list))
      (pss_cons (ps_asg pe_int (pg_sub (pv 0) pe_int set_list))
      (pss_one (ps_ret (pv 3)))))) pss_nil)
      (pss_cons (ps_asg (pe_op op_sub (pe_ix ix_list (pv 0) pe_int (fun _ _ => rfl)) pe_int) (pg_sub (pv 0) pe_int set_list))
      (pss_cons (ps_asg (pe_op op_mod (pe_callTy call_int1 (by rfl) T.z_int (by first | exact PySem.boot_int | decide +kernel) (pa_cons (pe_op op_add (pe_op op_mul (pe_ix ix_list (pv 0) pe_int (fun _ _ => rfl)) pe_int) pe_int) pa_nil)) pe_int) (pg_sub (pv 0) pe_int set_list))
      (pss_one (ps_ret (pe_op op_mod (pe_op op_mod (pe_callTy call_int1 (by rfl) T.z_int (by first | exact PySem.boot_int | decide +kernel) (pa_cons (pe_op op_add (pe_op op_mul (pe_ix ix_list (pv 0) pe_int (fun _ _ => rfl)) pe_int) pe_int) pa_nil)) pe_int) (pv 1)))))))), ?_⟩
  let ps : Int → Int → Int → Int → List V := fun i r u t => [.ref c, .int i, .int r, .int u, .int t, .int b]
  have at0 : ∀ i r u t, atI (ps i r u t) 0 = some (.ref c) := fun _ _ _ _ => atI_nat (j := 0) rfl
  have at1 : ∀ i r u t, atI (ps i r u t) 1 = some (.int i) := fun _ _ _ _ => atI_nat (j := 1) rfl
  have at2 : ∀ i r u t, atI (ps i r u t) 2 = some (.int r) := fun _ _ _ _ => atI_nat (j := 2) rfl
  have at3 : ∀ i r u t, atI (ps i r u t) 3 = some (.int u) := fun _ _ _ _ => atI_nat (j := 3) rfl
  have at4 : ∀ i r u t, atI (ps i r u t) 4 = some (.int t) := fun _ _ _ _ => atI_nat (j := 4) rfl
  refine ⟨fun σ' H' => ∃ y i r u t, σ' = [some (.ref p), some (.int n), y, none] ∧ But p H H' ∧ H' p = some (.lst (ps i r u t)) ∧ 0 ≤ i, ?_, ?_⟩
  · refine ⟨_, rfl, p, _, 2, .int r, rfl, rfl, SqL.of hp, at2 _ _ _ _, _, _, rfl, rfl, _, rfl, ite2 (fun _ => ?_) (fun _ => ⟨none, i, r, u, t, rfl, But.refl _ _, hp, hi⟩)⟩
    refine ⟨_, rfl, p, _, 4, .int t, rfl, rfl, SqL.of hp, at4 _ _ _ _, _, _, rfl, rfl, _, rfl, ite2 (fun _ => ?_) (fun _ => ⟨none, i, r, u, t, rfl, But.refl _ _, hp, hi⟩)⟩
    refine ⟨_, rfl, p, _, 1, .int i, rfl, rfl, SqL.of hp, at1 _ _ _ _, _, rfl, p, _, 0, .ref c, rfl, rfl, SqL.of hp, at0 _ _ _ _, c, _, rfl, .inl (SqL.of hc), _, _, rfl, rfl, _, rfl, ite2 (fun c3 => ?_) (fun _ => ⟨none, i, r, u, t, rfl, But.refl _ _, hp, hi⟩)⟩
    have c3' : i < (((ns.map V.int).length : Nat) : Int) := of_decide_eq_true c3
    rw [List.length_map] at c3'
    have hlt : i.toNat < ns.length := by omega
    have gi : (ns.map V.int)[i.toNat]? = some (.int ns[i.toNat]) := by rw [List.getElem?_map, List.getElem?_eq_getElem hlt]; rfl
    -- cell = pool[0][pool[1]]
    refine ⟨_, rfl, p, _, 0, .ref c, rfl, rfl, SqL.of hp, at0 _ _ _ _, _, rfl, p, _, 1, .int i, rfl, rfl, SqL.of hp, at1 _ _ _ _, c, _, i, _, rfl, rfl, SqL.of hc, at_of (j := i.toNat) (by omega) gi, ?_⟩
    generalize ns[i.toNat] = z
    -- pool[1] = pool[1] + 1; pool[3] = ..; pool[4] = 7
    refine ⟨_, rfl, p, _, 1, .int i, rfl, rfl, SqL.of hp, at1 _ _ _ _, _, _, rfl, rfl, _, rfl, p, _, 1, 1, rfl, rfl, hp, rfl, ?_⟩
    refine ⟨_, rfl, p, ps (i + 1) r u t, 3, .int u, rfl, rfl, SqL.of upd_same, at3 _ _ _ _, _, _, rfl, rfl, .inr ⟨by decide, by decide⟩, _, rfl, _, _, rfl, rfl, .inl ⟨_, rfl, _, _, rfl, rfl, by show (0 : Int) < 2147483647; decide, _, rfl, p, ps (i + 1) r u t, 3, 3, rfl, rfl, upd_same, rfl, ?_⟩⟩
    rw [upd_upd]
    refine ⟨_, rfl, p, ps (i + 1) r ((u * 31 + z) % 2147483647) t, 4, 4, rfl, rfl, upd_same, rfl, ?_⟩
    rw [upd_upd]
    -- if cell >= 10 ** 18: pool[2] = cell
    refine ⟨_, rfl, _, _, rfl, rfl, ⟨by decide, by decide, by decide⟩, _, _, rfl, rfl, _, rfl, ite2 (fun _ => ?_) (fun _ => ?_)⟩
    · refine ⟨_, rfl, _, rfl, p, ps (i + 1) r ((u * 31 + z) % 2147483647) 7, 2, 2, rfl, rfl, upd_same, rfl, ?_⟩
      rw [upd_upd]
      exact ⟨_, i + 1, z, _, 7, rfl, but_upd, upd_same, by omega⟩
    · exact ⟨_, i + 1, r, _, 7, rfl, but_upd, upd_same, by omega⟩
  clear hp hi at0
  rintro σ1 H1 ⟨y, i, r, u, t, rfl, b1, hp, hi⟩
  have hc1 : H1 c = some (.lst (ns.map V.int)) := b1 _ _ hcp hc
  refine ⟨_, rfl, p, _, 2, .int r, rfl, rfl, SqL.of hp, at2 _ _ _ _, _, _, rfl, rfl, _, rfl, ite2 (fun _ => ?_) (fun _ => ?_)⟩
  · -- a large cell is used up
    refine ⟨_, rfl, p, _, 2, .int r, rfl, rfl, SqL.of hp, at2 _ _ _ _, .inl ⟨_, rfl, _, rfl, _, _, rfl, rfl, hn, ?_⟩⟩
    refine ⟨_, rfl, p, _, 2, .int r, rfl, rfl, SqL.of hp, at2 _ _ _ _, _, rfl, _, _, rfl, rfl, ⟨hn, hn2⟩, _, rfl, p, _, 2, 2, rfl, rfl, hp, rfl, ?_⟩
    refine ⟨_, rfl, p, ps i (r / n) u t, 4, 4, rfl, rfl, upd_same, rfl, ?_⟩
    rw [upd_upd]
    refine ⟨_, rfl, q _ _ (Int.emod_nonneg _ (by omega)) (Int.emod_lt_of_pos _ hn) (b1.trans but_upd) ⟨ns, i, r / n, u, 0, upd_same, ?_, hi, hcp⟩⟩
    rw [upd_ne hcp]
    exact hc1
  · refine ⟨_, rfl, p, _, 4, .int t, rfl, rfl, SqL.of hp, at4 _ _ _ _, _, _, rfl, rfl, _, rfl, p, _, 4, 4, rfl, rfl, hp, rfl, ?_⟩
    refine ⟨_, rfl, p, ps i r u (t - 1), 3, .int u, rfl, rfl, SqL.of upd_same, at3 _ _ _ _, _, _, rfl, rfl, .inr ⟨by decide, by decide⟩, _, _, rfl, rfl, .inl ⟨_, rfl, _, _, rfl, rfl, by show (0 : Int) < 2147483647; decide, _, rfl, p, ps i r u (t - 1), 3, 3, rfl, rfl, upd_same, rfl, ?_⟩⟩
    rw [upd_upd]
    refine ⟨_, rfl, p, ps i r ((u * 48271 + 12345) % 2147483647) (t - 1), 3, _, rfl, rfl, SqL.of upd_same, at3 _ _ _ _, _, _, rfl, rfl, .inr ⟨by decide, by decide⟩, _, _, rfl, rfl, .inl ⟨_, rfl, _, _, rfl, rfl, by show (0 : Int) < 2147483647; decide, _, rfl, _, _, rfl, rfl, hn, ?_⟩⟩
    refine q _ _ (Int.emod_nonneg _ (by omega)) (Int.emod_lt_of_pos _ hn) (b1.trans but_upd) ⟨ns, i, r, _, t - 1, upd_same, ?_, hi, hcp⟩
    rw [upd_ne hcp]
    exact hc1
/-! ### _law_spend -/
def sp_law_spend (T : Txt K mg w) : Sp := fun vs H Q _ => ∃ (p c : Addr) (b : Int), vs = [.ref p] ∧ Pool H p c b ∧ ∀ (k : Bool) (H' : Hp), (k = true ↔ 1 ≤ b) → But p H H' → Pool H' p c (b - 1) → Q (.bl k) H'

theorem ok_law_spend (T : Txt K mg w) : FnOk P w K mg base CX0 1 T.a_law_spend T.d_law_spend ["pool"] (sp_law_spend T) := by
  refine T.F_law_spend.ok sc_law_spend (fun vs H Q E h => ?_) (fun cdv A outer s H vs Q E hr h => ?_)
  · obtain ⟨p, c, b, rfl, _⟩ := h
    rfl
  obtain ⟨p, c, b, rfl, ⟨ns, i, r, u, t, hp, hc, hi, hcp⟩, q⟩ := h
  refine ⟨_, (pss_cons (ps_asg (pe_op op_sub (pe_ix ix_list (pv 0) pe_int (fun _ _ => rfl)) pe_int) (pg_sub (pv 0) pe_int set_list))
      (pss_one (ps_ret (pe_cmpR op_ge (pe_ix ix_list (pv 0) pe_int (fun _ _ => rfl)) pe_int (nomark _))))), ?_⟩
  refine ⟨_, rfl, p, _, 5, .int b, rfl, rfl, SqL.of hp, atI_nat (j := 5) rfl, _, _, rfl, rfl, _, rfl, p, _, 5, 5, rfl, rfl, hp, rfl, ?_⟩
  refine ⟨_, rfl, p, [.ref c, .int i, .int r, .int u, .int t, .int (b - 1)], 5, .int (b - 1), rfl, rfl, SqL.of upd_same, atI_nat (j := 5) rfl, _, _, rfl, rfl, q _ _ ?_ but_upd ⟨ns, i, r, u, t, upd_same, ?_, hi, hcp⟩⟩
  · rw [decide_eq_true_iff]
    omega
  rw [upd_ne hcp]
  exact hc
/-! ### _law_few -/
def sp_law_few (T : Txt K mg w) : Sp := fun vs H Q _ => ∃ (p c : Addr) (m b : Int), vs = [.ref p, .int m] ∧ 0 ≤ m ∧ m < 1000 ∧ Pool H p c b ∧ ∀ (k : Int) (H' : Hp), 0 ≤ k → k ≤ m → But p H H' → Pool H' p c b → Q (.int k) H'

theorem ok_law_few (T : Txt K mg w) : FnOk P w K mg base CX0 2 T.a_law_few T.d_law_few ["pool", "most"] (sp_law_few T) := by
  refine T.F_law_few.ok sc_law_few (fun vs H Q E h => ?_) (fun cdv A outer s H vs Q E hr h => ?_)
  · obtain ⟨p, c, m, b, rfl, _⟩ := h
    rfl
  obtain ⟨p, c, m, b, rfl, m0, m1, hP, q⟩ := h
  refine ⟨_, (pss_cons (ps_set (i := 2) sc_law_few.nd rfl (by first | exact Or.inl rfl | exact Or.inr rfl) (pe_call (ok_law_draw T) (hr.mono (by decide)) (by rfl) T.m_law_draw T.F_law_draw.kp T.b_law_draw .nil pass0 (pa_cons (pv 0) (pa_cons pe_int pa_nil))))
      (pss_cons (ps_if (pt_cmpR op_eq (pv 2) pe_int (nomark _)) (pss_one (ps_ret (pe_call (ok_law_draw T) (hr.mono (by decide)) (by rfl) T.m_law_draw T.F_law_draw.kp T.b_law_draw .nil pass0 (pa_cons (pv 0) (pa_cons (pe_op op_add (pv 1) pe_int) pa_nil))))) pss_nil)
      (pss_one (ps_ret (pe_callB (call_min2 rfl) (by rfl) T.z_min (by first | exact PySem.boot_min | decide +kernel) (pa_cons (pv 2) (pa_cons (pv 1) pa_nil))))))), ?_⟩
  refine ⟨_, rfl, p, c, 4, b, rfl, by decide, by decide, hP, fun k H1 h0 h1 b1 P1 => ?_⟩
  refine ⟨_, rfl, rfl, _, rfl, ite2 (fun _ => ⟨_, rfl, _, rfl, _, _, rfl, rfl, p, c, m + 1, b, rfl, by omega, by omega, P1, fun k2 H2 g0 g1 b2 P2 => q _ _ g0 (by omega) (b1.trans b2) P2⟩) (fun _ => ⟨_, rfl, _, rfl, _, _, rfl, ?_⟩)⟩
  exact q _ _ (by split <;> omega) (by split <;> omega) b1 P1
/-! ### _law_number -/
def sp_law_number (T : Txt K mg w) : Sp := fun vs H Q _ => ∃ (p c : Addr) (b : Int), vs = [.ref p] ∧ Pool H p c b ∧ ∀ (k : Int) (H' : Hp), Bd k → But p H H' → Pool H' p c b → Q (.int k) H'

theorem ok_law_number (T : Txt K mg w) : FnOk P w K mg base CX0 2 T.a_law_number T.d_law_number ["pool"] (sp_law_number T) := by
  refine T.F_law_number.ok sc_law_number (fun vs H Q E h => ?_) (fun cdv A outer s H vs Q E hr h => ?_)
  · obtain ⟨p, c, b, rfl, _⟩ := h
    rfl
  obtain ⟨p, c, b, rfl, hP, q⟩ := h
  refine ⟨_, (pss_cons (ps_if (pt_cmpR op_eq (pe_call (ok_law_draw T) (hr.mono (by decide)) (by rfl) T.m_law_draw T.F_law_draw.kp T.b_law_draw .nil pass0 (pa_cons (pv 0) (pa_cons pe_int pa_nil))) pe_int (nomark _)) (pss_one (ps_ret (pe_call (ok_law_draw T) (hr.mono (by decide)) (by rfl) T.m_law_draw T.F_law_draw.kp T.b_law_draw .nil pass0 (pa_cons (pv 0) (pa_cons pe_int pa_nil))))) pss_nil)
      (pss_one (ps_ret (pe_call (ok_law_draw T) (hr.mono (by decide)) (by rfl) T.m_law_draw T.F_law_draw.kp T.b_law_draw .nil pass0 (pa_cons (pv 0) (pa_cons pe_int pa_nil)))))), ?_⟩
  refine ⟨_, rfl, p, c, 3, b, rfl, by decide, by decide, hP, fun k H1 h0 h1 b1 P1 => ?_⟩
  refine ⟨rfl, _, rfl, ite2 (fun _ => ?_) (fun _ => ?_)⟩
  · exact ⟨_, rfl, p, c, 65536, b, rfl, by decide, by decide, P1, fun k2 H2 g0 g1 b2 P2 => q _ _ ⟨g0, g1⟩ (b1.trans b2) P2⟩
  · exact ⟨_, rfl, p, c, 9, b, rfl, by decide, by decide, P1, fun k2 H2 g0 g1 b2 P2 => q _ _ ⟨g0, by omega⟩ (b1.trans b2) P2⟩
/-! ### _law_same -/
def sp_law_same (T : Txt K mg w) (n : Nat) : Sp := fun vs H Q _ => ∃ (x y : V) (d : PyData), vs = [x, y] ∧ DaK K H x d ∧ DaK K H y d ∧ d.depth < n ∧ wide d = true ∧ Q (.bl true) H
theorem no_law_same (T : Txt K mg w) : ∀ vs H Q E, ¬ sp_law_same T 0 vs H Q E := fun vs H Q E ⟨_, _, _, _, _, _, h, _⟩ => Nat.not_lt_zero _ h

theorem step_law_same (T : Txt K mg w) {n : Nat} (G : FnOk P w K mg base CX0 (0 + n) T.a_law_same T.d_law_same ["actual", "due"] (sp_law_same T n)) : FnOk P w K mg base CX0 (0 + n + 1) T.a_law_same T.d_law_same ["actual", "due"] (sp_law_same T (n + 1)) := by
  refine T.F_law_same.ok sc_law_same (fun vs H Q E h => ?_) (fun cdv A outer s H vs Q E hr h => ?_)
  · obtain ⟨x, y, d, rfl, _⟩ := h
    rfl
  obtain ⟨x, y, d, rfl, hx, hy, hd, hw, q⟩ := h
  refine ⟨_, (pss_cons (ps_if (PW.pt (pw_or (pt_truth (pe_callB call_isi (by rfl) T.z_isinstance (by first | exact PySem.boot_isinstance | decide +kernel) (pa_cons (pv 1) (pa_cons (pe_bltn (v := .ty "tuple") (by rfl) T.z_tuple (by decide +kernel) rfl) pa_nil))) (fun _ => rfl)) (pw_or1 (pt_truth (pe_callB call_isi (by rfl) T.z_isinstance (by first | exact PySem.boot_isinstance | decide +kernel) (pa_cons (pv 1) (pa_cons (pe_bltn (v := .ty "list") (by rfl) T.z_list (by decide +kernel) rfl) pa_nil))) (fun _ => rfl))))) (pss_cons (ps_if (PW.pt (pw_or (pt_cmpR op_ne (pe_callB call_isi (by rfl) T.z_isinstance (by first | exact PySem.boot_isinstance | decide +kernel) (pa_cons (pv 1) (pa_cons (pe_bltn (v := .ty "tuple") (by rfl) T.z_tuple (by decide +kernel) rfl) pa_nil))) (pe_callB call_isi (by rfl) T.z_isinstance (by first | exact PySem.boot_isinstance | decide +kernel) (pa_cons (pv 0) (pa_cons (pe_bltn (v := .ty "tuple") (by rfl) T.z_tuple (by decide +kernel) rfl) pa_nil))) (nomark _)) (pw_or1 (pt_cmpR op_ne (pe_callB call_isi (by rfl) T.z_isinstance (by first | exact PySem.boot_isinstance | decide +kernel) (pa_cons (pv 1) (pa_cons (pe_bltn (v := .ty "list") (by rfl) T.z_list (by decide +kernel) rfl) pa_nil))) (pe_callB call_isi (by rfl) T.z_isinstance (by first | exact PySem.boot_isinstance | decide +kernel) (pa_cons (pv 0) (pa_cons (pe_bltn (v := .ty "list") (by rfl) T.z_list (by decide +kernel) rfl) pa_nil))) (nomark _))))) (pss_one (ps_ret pe_bl)) pss_nil)
      (pss_cons (ps_if (pt_cmpR op_ne (pe_callB call_len_seq (by rfl) T.z_len (by first | exact PySem.boot_len | decide +kernel) (pa_cons (pv 0) pa_nil)) (pe_callB call_len_seq (by rfl) T.z_len (by first | exact PySem.boot_len | decide +kernel) (pa_cons (pv 1) pa_nil)) (nomark _)) (pss_one (ps_ret pe_bl)) pss_nil)
      (pss_cons (ps_for PassesOwn.never rfl (pi_range1 (by rfl) T.z_range (pa_cons (pe_callB call_len_seq (by rfl) T.z_len (by first | exact PySem.boot_len | decide +kernel) (pa_cons (pv 1) pa_nil)) pa_nil)) (pg_name (i := 2) sc_law_same.nd rfl (by first | exact Or.inl rfl | exact Or.inr rfl)) (pss_one (ps_if (pt_not (pt_truth (pe_call G hr (by rfl) T.m_law_same T.F_law_same.kp T.b_law_same .nil pass0 (pa_cons (pe_ix (IxR.or ix_list ix_tup) (pv 0) (pv 2) (fun _ _ => rfl)) (pa_cons (pe_ix (IxR.or ix_list ix_tup) (pv 1) (pv 2) (fun _ _ => rfl)) pa_nil))) (fun _ => rfl))) (pss_one (ps_ret pe_bl)) pss_nil)))
      (pss_one (ps_ret pe_bl))))) pss_nil)
      (pss_cons (ps_if (PW.pt (pw_or (pt_cmpR op_isN (pv 1) pe_non (nomark _)) (pw_or1 (pt_truth (pe_callB call_isi (by rfl) T.z_isinstance (by first | exact PySem.boot_isinstance | decide +kernel) (pa_cons (pv 1) (pa_cons (pe_bltn (v := .ty "bool") (by rfl) T.z_bool (by decide +kernel) rfl) pa_nil))) (fun _ => rfl))))) (pss_one (ps_ret (pe_and (pe_cmpR op_eq (pe_cmpR op_isN (pv 0) pe_non (nomark _)) (pe_cmpR op_isN (pv 1) pe_non (nomark _)) (nomark _)) (pe_and (pe_or (pe_cmpR op_isN (pv 1) pe_non (nomark _)) (pe_one (pe_callB call_isi (by rfl) T.z_isinstance (by first | exact PySem.boot_isinstance | decide +kernel) (pa_cons (pv 0) (pa_cons (pe_bltn (v := .ty "bool") (by rfl) T.z_bool (by decide +kernel) rfl) pa_nil))))) (pe_one (pe_cmpR op_eq (pv 0) (pv 1) (nomark _))))))) pss_nil)
      (pss_cons (ps_if (pt_truth (pe_callB call_isi (by rfl) T.z_isinstance (by first | exact PySem.boot_isinstance | decide +kernel) (pa_cons (pv 1) (pa_cons (pe_bltn (v := .ty "int") (by rfl) T.z_int (by decide +kernel) rfl) pa_nil))) (fun _ => rfl)) (pss_one (ps_ret (pe_and (pe_callB call_isi (by rfl) T.z_isinstance (by first | exact PySem.boot_isinstance | decide +kernel) (pa_cons (pv 0) (pa_cons (pe_bltn (v := .ty "int") (by rfl) T.z_int (by decide +kernel) rfl) pa_nil))) (pe_and (pe_not (pe_callB call_isi (by rfl) T.z_isinstance (by first | exact PySem.boot_isinstance | decide +kernel) (pa_cons (pv 0) (pa_cons (pe_bltn (v := .ty "bool") (by rfl) T.z_bool (by decide +kernel) rfl) pa_nil)))) (pe_one (pe_cmpR op_eq (pv 0) (pv 1) (nomark _))))))) pss_nil)
      (pss_one (ps_ret (pe_and (pe_callB call_isi (by rfl) T.z_isinstance (by first | exact PySem.boot_isinstance | decide +kernel) (pa_cons (pv 0) (pa_cons (pe_bltn (v := .ty "str") (by rfl) T.z_str (by decide +kernel) rfl) pa_nil))) (pe_one (pe_cmpR op_eq (pv 0) (pv 1) (nomark _))))))))), ?_⟩
  cases d with
  | dict kvs => cases hx
  | none =>
    cases hx
    cases hy
    refine ⟨_, rfl, .non, .ty "tuple", .type "NoneType", .type "tuple", false, rfl, .ty _, .base .non, kit_ty (by decide +kernel), false, rfl, ?_⟩
    refine ⟨_, rfl, .non, .ty "list", .type "NoneType", .type "list", false, rfl, .ty _, .base .non, kit_ty (by decide +kernel), false, rfl, ?_⟩
    refine ⟨_, rfl, rfl, _, rfl, ?_⟩
    refine ⟨_, rfl, rfl, _, rfl, rfl, rfl, _, rfl, ?_⟩
    refine ⟨_, rfl, rfl, _, rfl, ?_⟩
    exact ⟨_, rfl, _, rfl, _, rfl, rfl, q⟩
  | bool b =>
    cases hx
    cases hy
    refine ⟨_, rfl, .bl b, .ty "tuple", .type "bool", .type "tuple", false, rfl, .ty _, .base (.bl b), kit_ty (by decide +kernel), false, rfl, ?_⟩
    refine ⟨_, rfl, .bl b, .ty "list", .type "bool", .type "list", false, rfl, .ty _, .base (.bl b), kit_ty (by decide +kernel), false, rfl, ?_⟩
    refine ⟨_, rfl, rfl, _, rfl, ?_⟩
    refine ⟨_, rfl, .bl b, .ty "bool", .type "bool", .type "bool", true, rfl, .ty _, .base (.bl b), kit_ty (by decide +kernel), true, rfl, ?_⟩
    refine ⟨_, rfl, rfl, _, rfl, rfl, rfl, _, rfl, ?_⟩
    refine ⟨_, rfl, rfl, _, rfl, ?_⟩
    refine ⟨_, rfl, .bl b, .ty "bool", .type "bool", .type "bool", true, rfl, .ty _, .base (.bl b), kit_ty (by decide +kernel), _, rfl, ?_⟩
    refine ⟨_, rfl, _, rfl, rfl, ?_⟩
    show Q (.bl (decide (V.bl b = V.bl b))) _
    rw [decide_eq_true rfl]
    exact q
  | int i =>
    cases hx
    cases hy
    refine ⟨_, rfl, .int i, .ty "tuple", .type "int", .type "tuple", false, rfl, .ty _, .base (.int i), kit_ty (by decide +kernel), false, rfl, ?_⟩
    refine ⟨_, rfl, .int i, .ty "list", .type "int", .type "list", false, rfl, .ty _, .base (.int i), kit_ty (by decide +kernel), false, rfl, ?_⟩
    refine ⟨_, rfl, rfl, _, rfl, ?_⟩
    refine ⟨_, rfl, .int i, .ty "bool", .type "int", .type "bool", false, rfl, .ty _, .base (.int i), kit_ty (by decide +kernel), false, rfl, ?_⟩
    refine ⟨_, rfl, .int i, .ty "int", .type "int", .type "int", true, rfl, .ty _, .base (.int i), kit_ty (by decide +kernel), true, rfl, ?_⟩
    refine ⟨_, rfl, .int i, .ty "int", .type "int", .type "int", true, rfl, .ty _, .base (.int i), kit_ty (by decide +kernel), _, rfl, ?_⟩
    refine ⟨_, rfl, .int i, .ty "bool", .type "int", .type "bool", false, rfl, .ty _, .base (.int i), kit_ty (by decide +kernel), _, rfl, _, rfl, ?_⟩
    refine ⟨_, rfl, _, rfl, rfl, ?_⟩
    show Q (.bl (decide (V.int i = V.int i))) _
    rw [decide_eq_true rfl]
    exact q
  | str x =>
    cases hx
    cases hy
    refine ⟨_, rfl, .str x, .ty "tuple", .type "str", .type "tuple", false, rfl, .ty _, .base (.str x), kit_ty (by decide +kernel), false, rfl, ?_⟩
    refine ⟨_, rfl, .str x, .ty "list", .type "str", .type "list", false, rfl, .ty _, .base (.str x), kit_ty (by decide +kernel), false, rfl, ?_⟩
    refine ⟨_, rfl, rfl, _, rfl, ?_⟩
    refine ⟨_, rfl, .str x, .ty "bool", .type "str", .type "bool", false, rfl, .ty _, .base (.str x), kit_ty (by decide +kernel), false, rfl, ?_⟩
    refine ⟨_, rfl, .str x, .ty "int", .type "str", .type "int", false, rfl, .ty _, .base (.str x), kit_ty (by decide +kernel), false, rfl, ?_⟩
    refine ⟨_, rfl, .str x, .ty "str", .type "str", .type "str", true, rfl, .ty _, .base (.str x), kit_ty (by decide +kernel), _, rfl, ?_⟩
    refine ⟨_, rfl, _, rfl, rfl, ?_⟩
    show Q (.bl (decide (V.str x = V.str x))) _
    rw [decide_eq_true rfl]
    exact q
  | tuple ds =>
    cases hx with
    | @tup px xs _ hpx lx ex =>
    cases hy with
    | @tup py ys _ hpy ly ey =>
    simp only [wide, Bool.and_eq_true, decide_eq_true_eq] at hw
    have hl : ((xs.length : Nat) : Int) = ((ys.length : Nat) : Int) := by rw [lx, ly]
    refine ⟨_, rfl, .ref py, .ty "tuple", .type "tuple", .type "tuple", true, rfl, .ty _, hpy.ty, kit_ty (by decide +kernel), true, rfl, ?_⟩
    refine ⟨_, rfl, .ref py, .ty "tuple", .type "tuple", .type "tuple", true, rfl, .ty _, hpy.ty, kit_ty (by decide +kernel), _, rfl, .ref px, .ty "tuple", .type "tuple", .type "tuple", true, rfl, .ty _, hpx.ty, kit_ty (by decide +kernel), rfl, _, rfl, ?_⟩
    refine ⟨_, rfl, .ref py, .ty "list", .type "tuple", .type "list", false, rfl, .ty _, hpy.ty, kit_ty (by decide +kernel), _, rfl, .ref px, .ty "list", .type "tuple", .type "list", false, rfl, .ty _, hpx.ty, kit_ty (by decide +kernel), rfl, _, rfl, ?_⟩
    refine ⟨_, rfl, px, xs, rfl, .inr (hpx.sq), _, rfl, py, ys, rfl, .inr (hpy.sq), rfl, _, rfl, iteNS (congrArg V.int hl) ?_⟩
    refine ⟨_, rfl, py, ys, rfl, .inr (hpy.sq), _, rfl, by omega, by omega, for_range (fun i σ' H' => ∃ yk, σ' = [some (.ref px), some (.ref py), yk] ∧ H' = H) ⟨_, rfl, rfl⟩ ?_ ?_⟩
    · rintro i σ1 H1 hi ⟨yk, rfl, rfl⟩
      have hi2 : i < ds.length := by rw [← ly]; exact hi
      have gd : ds[i]? = some ds[i] := List.getElem?_eq_getElem hi2
      have gx : xs[i]? = some xs[i] := List.getElem?_eq_getElem (by rw [lx]; exact hi2)
      have gy : ys[i]? = some ys[i] := List.getElem?_eq_getElem (by rw [ly]; exact hi2)
      have e0 : (0 : Int) + (i : Int) = ((i : Nat) : Int) := Int.zero_add _
      refine ⟨_, rfl, _, rfl, .inr ⟨px, xs, _, _, rfl, rfl, hpx.sq, at_of e0 gx, _, rfl, _, rfl, .inr ⟨py, ys, _, _, rfl, rfl, hpy.sq, at_of e0 gy, xs[i], ys[i], ds[i], rfl, ex i _ _ gx gd, ey i _ _ gy gd, ?_, wide_get hw.2 gd, true, rfl, _, rfl, rfl⟩⟩⟩
      have dg := depth_get gd
      simp only [PyData.depth] at hd
      omega
    · rintro σ1 H1 ⟨yk, rfl, rfl⟩
      exact q
  | list ds =>
    cases hx with
    | @lst px xs _ hpx lx ex =>
    cases hy with
    | @lst py ys _ hpy ly ey =>
    simp only [wide, Bool.and_eq_true, decide_eq_true_eq] at hw
    have hl : ((xs.length : Nat) : Int) = ((ys.length : Nat) : Int) := by rw [lx, ly]
    refine ⟨_, rfl, .ref py, .ty "tuple", .type "list", .type "tuple", false, rfl, .ty _, .base (.lst hpy), kit_ty (by decide +kernel), false, rfl, ?_⟩
    refine ⟨_, rfl, .ref py, .ty "list", .type "list", .type "list", true, rfl, .ty _, .base (.lst hpy), kit_ty (by decide +kernel), true, rfl, ?_⟩
    refine ⟨_, rfl, .ref py, .ty "tuple", .type "list", .type "tuple", false, rfl, .ty _, .base (.lst hpy), kit_ty (by decide +kernel), _, rfl, .ref px, .ty "tuple", .type "list", .type "tuple", false, rfl, .ty _, .base (.lst hpx), kit_ty (by decide +kernel), rfl, _, rfl, ?_⟩
    refine ⟨_, rfl, .ref py, .ty "list", .type "list", .type "list", true, rfl, .ty _, .base (.lst hpy), kit_ty (by decide +kernel), _, rfl, .ref px, .ty "list", .type "list", .type "list", true, rfl, .ty _, .base (.lst hpx), kit_ty (by decide +kernel), rfl, _, rfl, ?_⟩
    refine ⟨_, rfl, px, xs, rfl, .inl (SqL.of hpx), _, rfl, py, ys, rfl, .inl (SqL.of hpy), rfl, _, rfl, iteNS (congrArg V.int hl) ?_⟩
    refine ⟨_, rfl, py, ys, rfl, .inl (SqL.of hpy), _, rfl, by omega, by omega, for_range (fun i σ' H' => ∃ yk, σ' = [some (.ref px), some (.ref py), yk] ∧ H' = H) ⟨_, rfl, rfl⟩ ?_ ?_⟩
    · rintro i σ1 H1 hi ⟨yk, rfl, rfl⟩
      have hi2 : i < ds.length := by rw [← ly]; exact hi
      have gd : ds[i]? = some ds[i] := List.getElem?_eq_getElem hi2
      have gx : xs[i]? = some xs[i] := List.getElem?_eq_getElem (by rw [lx]; exact hi2)
      have gy : ys[i]? = some ys[i] := List.getElem?_eq_getElem (by rw [ly]; exact hi2)
      have e0 : (0 : Int) + (i : Int) = ((i : Nat) : Int) := Int.zero_add _
      refine ⟨_, rfl, _, rfl, .inl ⟨px, xs, _, _, rfl, rfl, SqL.of hpx, at_of e0 gx, _, rfl, _, rfl, .inl ⟨py, ys, _, _, rfl, rfl, SqL.of hpy, at_of e0 gy, xs[i], ys[i], ds[i], rfl, ex i _ _ gx gd, ey i _ _ gy gd, ?_, wide_get hw.2 gd, true, rfl, _, rfl, rfl⟩⟩⟩
      have dg := depth_get gd
      simp only [PyData.depth] at hd
      omega
    · rintro σ1 H1 ⟨yk, rfl, rfl⟩
      exact q
theorem ok_law_same (T : Txt K mg w) : ∀ n, FnOk P w K mg base CX0 (0 + n) T.a_law_same T.d_law_same ["actual", "due"] (sp_law_same T n)
  | 0 => ⟨fun vs H Q E h => absurd h (no_law_same T vs H Q E), fun A outer s H args us vs Q E _ _ _ _ h => absurd h (no_law_same T vs H Q E)⟩
  | n + 1 => step_law_same T (ok_law_same T n)
/-! ### _law_same@q -/
def sp_law_same_q (T : Txt K mg w) : Sp := fun vs H Q _ => ∃ (x : Str), vs = [.str x, .str x] ∧ Q (.bl true) H

theorem ok_law_same_q (T : Txt K mg w) : FnQ P w K mg base 40 T.a_law_same T.d_law_same ["actual", "due"] (sp_law_same_q T) := by
  refine fun_okQ T.F_law_same sc_law_same (fun vs H Q E h => ?_) (fun cdv A outer s H vs Q E hr h => ?_)
  · obtain ⟨x, rfl, _⟩ := h
    rfl
  obtain ⟨x, rfl, q⟩ := h
  refine ⟨_, (pss_cons (ps_if (PW.pt (pw_or (pt_truth (pe_callB call_isi (by rfl) T.z_isinstance (by first | exact PySem.boot_isinstance | decide +kernel) (pa_cons (pv 1) (pa_cons (pe_bltn (v := .ty "tuple") (by rfl) T.z_tuple (by decide +kernel) rfl) pa_nil))) (fun _ => rfl)) (pw_or1 (pt_truth (pe_callB call_isi (by rfl) T.z_isinstance (by first | exact PySem.boot_isinstance | decide +kernel) (pa_cons (pv 1) (pa_cons (pe_bltn (v := .ty "list") (by rfl) T.z_list (by decide +kernel) rfl) pa_nil))) (fun _ => rfl))))) (pss_cons (ps_never)
      (pss_cons (ps_never)
      (pss_cons (ps_never)
      (pss_one (ps_never))))) pss_nil)
      (pss_cons (ps_if (PW.pt (pw_or (pt_cmpR op_isN (pv 1) pe_non (nomark _)) (pw_or1 (pt_truth (pe_callB call_isi (by rfl) T.z_isinstance (by first | exact PySem.boot_isinstance | decide +kernel) (pa_cons (pv 1) (pa_cons (pe_bltn (v := .ty "bool") (by rfl) T.z_bool (by decide +kernel) rfl) pa_nil))) (fun _ => rfl))))) (pss_one (ps_never)) pss_nil)
      (pss_cons (ps_if (pt_truth (pe_callB call_isi (by rfl) T.z_isinstance (by first | exact PySem.boot_isinstance | decide +kernel) (pa_cons (pv 1) (pa_cons (pe_bltn (v := .ty "int") (by rfl) T.z_int (by decide +kernel) rfl) pa_nil))) (fun _ => rfl)) (pss_one (ps_never)) pss_nil)
      (pss_one (ps_ret (pe_and (pe_callB call_isi (by rfl) T.z_isinstance (by first | exact PySem.boot_isinstance | decide +kernel) (pa_cons (pv 0) (pa_cons (pe_bltn (v := .ty "str") (by rfl) T.z_str (by decide +kernel) rfl) pa_nil))) (pe_one (pe_cmpR op_eq (pv 0) (pv 1) (nomark _))))))))), ?_⟩
  refine ⟨_, rfl, .str x, .ty "tuple", .type "str", .type "tuple", false, rfl, .ty _, .base (.str x), kit_ty (by decide +kernel), false, rfl, ?_⟩
  refine ⟨_, rfl, .str x, .ty "list", .type "str", .type "list", false, rfl, .ty _, .base (.str x), kit_ty (by decide +kernel), false, rfl, ?_⟩
  refine ⟨_, rfl, rfl, _, rfl, ?_⟩
  refine ⟨_, rfl, .str x, .ty "bool", .type "str", .type "bool", false, rfl, .ty _, .base (.str x), kit_ty (by decide +kernel), false, rfl, ?_⟩
  refine ⟨_, rfl, .str x, .ty "int", .type "str", .type "int", false, rfl, .ty _, .base (.str x), kit_ty (by decide +kernel), false, rfl, ?_⟩
  refine ⟨_, rfl, .str x, .ty "str", .type "str", .type "str", true, rfl, .ty _, .base (.str x), kit_ty (by decide +kernel), _, rfl, ?_⟩
  refine ⟨_, rfl, _, rfl, rfl, ?_⟩
  show Q (.bl (decide (V.str x = V.str x))) _
  rw [decide_eq_true rfl]
  exact q
/-! ### _law_keys -/
def sp_law_keys (T : Txt K mg w) : Sp := fun vs H Q _ => vs = [] ∧ ∀ (p : Addr) (H' : Hp), Same H H' → H p = none → H' p = some (.lst (kwL.map V.str)) → Q (.ref p) H'

theorem ok_law_keys (T : Txt K mg w) : FnOk P w K mg base CX0 1 T.a_law_keys T.d_law_keys [] (sp_law_keys T) := by
  refine T.F_law_keys.ok sc_law_keys (fun vs H Q E h => ?_) (fun cdv A outer s H vs Q E hr h => ?_)
  · obtain ⟨rfl, _⟩ := h
    rfl
  obtain ⟨rfl, q⟩ := h
  refine ⟨_, (pss_cons (ps_set (i := 0) sc_law_keys.nd rfl (by first | exact Or.inl rfl | exact Or.inr rfl) pe_str)
      (pss_one (ps_ret (pe_bm PySem.F.plainAttrs_str PySem.F.slot_str_split PySem.F.type_str_split mt_split (pe_op op_add_str (pv 0) pe_str) (pa_cons pe_str pa_nil))))), ?_⟩
  refine ⟨_, rfl, _, _, rfl, rfl, by decide +kernel, rfl, _, _, rfl, rfl, by decide +kernel, by decide +kernel, fun p hp => ?_⟩
  refine q p _ (same_upd hp) hp ?_
  rw [upd_same, kw_split]
/-! ### _law_name -/
def sp_law_name (T : Txt K mg w) : Sp := fun vs H Q _ => ∃ (p c pt : Addr) (ts : List Str) (b : Int), vs = [.ref p, .ref pt] ∧ Pool H p c b ∧ pt ≠ p ∧ H pt = some (.lst (ts.map V.str)) ∧ ts.length < 20 ∧ ∀ (x : Str) (H' : Hp), Nm x → x ∉ ts → But p H H' → Pool H' p c b → Q (.str x) H'

theorem ok_law_name (T : Txt K mg w) : FnOk P w K mg base CX0 3 T.a_law_name T.d_law_name ["pool", "taken"] (sp_law_name T) := by
  refine T.F_law_name.ok sc_law_name (fun vs H Q E h => ?_) (fun cdv A outer s H vs Q E hr h => ?_)
  · obtain ⟨p, c, pt, ts, b, rfl, _⟩ := h
    rfl
  obtain ⟨p, c, pt, ts, b, rfl, hP, npt, ht, h20, q⟩ := h
  refine ⟨_, (pss_cons (ps_set (i := 2) sc_law_name.nd rfl (by first | exact Or.inl rfl | exact Or.inr rfl) pe_str)
      (pss_cons (ps_set (i := 3) sc_law_name.nd rfl (by first | exact Or.inl rfl | exact Or.inr rfl) (pe_ix ix_str (pv 2) (pe_call (ok_law_draw T) (hr.mono (by decide)) (by rfl) T.m_law_draw T.F_law_draw.kp T.b_law_draw .nil pass0 (pa_cons (pv 0) (pa_cons pe_int pa_nil))) (fun _ _ => rfl)))
      (pss_cons (ps_for PassesOwn.never rfl (pi_range1 (by rfl) T.z_range (pa_cons (pe_call (ok_law_few T) (hr.mono (by decide)) (by rfl) T.m_law_few T.F_law_few.kp T.b_law_few .nil pass0 (pa_cons (pv 0) (pa_cons pe_int pa_nil))) pa_nil)) (pg_name (i := 4) sc_law_name.nd rfl (by first | exact Or.inl rfl | exact Or.inr rfl)) (pss_one (ps_set (i := 3) sc_law_name.nd rfl (by first | exact Or.inl rfl | exact Or.inr rfl) (pe_op op_add_str (pv 3) (pe_ix ix_str (pv 2) (pe_call (ok_law_draw T) (hr.mono (by decide)) (by rfl) T.m_law_draw T.F_law_draw.kp T.b_law_draw .nil pass0 (pa_cons (pv 0) (pa_cons pe_int pa_nil))) (fun _ _ => rfl))))))
      (C8.pss_cut (ps_if (PW.pt (pw_or (pt_cmpR op_in_seq (pv 3) (pv 1) (by with_unfolding_all rfl)) (pw_or1 (pt_cmpR op_in_seq (pv 3) (pe_call0 (ok_law_keys T) (hr.mono (by decide)) (by rfl) T.m_law_keys T.F_law_keys.kp T.b_law_keys .nil pass0) (by with_unfolding_all rfl))))) (pss_one (ps_for PassesOwn.never rfl (pi_range1 (by rfl) T.z_range (pa_cons pe_int pa_nil)) (pg_name (i := 4) sc_law_name.nd rfl (by first | exact Or.inl rfl | exact Or.inr rfl)) (pss_one (ps_if (pt_cmpR op_notIn_seq (pe_op op_add_str pe_str (pe_callTy call_str_int (by rfl) T.z_str (by first | exact PySem.boot_str | decide +kernel) (pa_cons (pv 4) pa_nil))) (pv 1) (by with_unfolding_all rfl)) (pss_one (ps_set (i := 3) sc_law_name.nd rfl (by first | exact Or.inl rfl | exact Or.inr rfl) (pe_op op_add_str pe_str (pe_callTy call_str_int (by rfl) T.z_str (by first | exact PySem.boot_str | decide +kernel) (pa_cons (pv 4) pa_nil))))) pss_nil)))) pss_nil)
      (pss_one (ps_ret (pv 3))))))), ?_⟩
  refine ⟨_, rfl, _, rfl, p, c, 26, b, rfl, by decide, by decide, hP, fun r H1 r0 r1 b1 P1 => ?_⟩
  obtain ⟨d, ad, ld⟩ := ld_let r0 r1
  refine ⟨ldN, r, d, rfl, rfl, by decide +kernel, ad, ?_⟩
  refine ⟨_, rfl, p, c, 11, b, rfl, by decide, by decide, P1, fun m H2 m0 m1 b2 P2 => ?_⟩
  refine ⟨m, rfl, by omega, by omega, for_range (fun i σ' H' => ∃ (x : Str) (y : Option V), σ' = [some (.ref p), some (.ref pt), some (.str ldN), some (.str x), y] ∧ But p H H' ∧ Pool H' p c b ∧ ∃ r, x.cps.toList = d :: r ∧ (∀ d ∈ r, NmC d) ∧ r.length = i) ⟨_, _, rfl, b1.trans b2, P2, [], rfl, (fun _ m => by cases m), rfl⟩ ?_ ?_⟩
  · rintro i σ3 H3 hi ⟨x, y, rfl, b3, P3, rr, xe, xn, xl⟩
    refine ⟨_, rfl, _, rfl, _, rfl, p, c, 36, b, rfl, by decide, by decide, P3, fun r H4 r0 r1 b4 P4 => ?_⟩
    obtain ⟨d2, ad2, ld2⟩ := ld_nm r0 r1
    have xL : x.length = i + 1 := by
      show x.cps.toList.length = i + 1
      rw [xe, List.length_cons, xl]
    refine ⟨ldN, r, d2, rfl, rfl, by decide +kernel, ad2, x, _, rfl, rfl, ?_, ⟨_, _, rfl, b3.trans b4, P4, rr ++ [d2], ?_, ?_, ?_⟩⟩
    · show x.length + 1 ≤ sizeLine
      exact small_le (by omega)
    · rw [app_cps, xe]
      rfl
    · intro d3 m3
      rcases List.mem_append.mp m3 with m3 | m3
      · exact xn d3 m3
      · rw [List.mem_singleton.mp m3]
        exact ld2
    · rw [List.length_append, xl]
      rfl
  · rintro σ3 H3 ⟨x0, y, rfl, b3, P3, rr, xe, xn, xl⟩
    have et := b3 _ _ npt ht
    have xF : NmF x0 := ⟨d, rr, xe, ld, xn, by omega⟩
    refine ⟨fun σ' H' => ∃ (x : Str) (y : Option V), σ' = [some (.ref p), some (.ref pt), some (.str ldN), some (.str x), y] ∧ But p H H' ∧ Pool H' p c b ∧ Nm x ∧ x ∉ ts, ?_, ?_⟩
    · refine ⟨_, rfl, _, rfl, pt, ts.map V.str, rfl, .inl (SqL.of et), rfl, strs_flat ts, _, rfl, ite2 (fun _ => ?_) (fun c1 => ?_)⟩
      · refine ⟨20, rfl, by decide, by decide, for_range (fun i σ' H' => ∃ (x : Str) (y : Option V), σ' = [some (.ref p), some (.ref pt), some (.str ldN), some (.str x), y] ∧ H' = H3 ∧ VW ts x0 i x) ⟨_, _, rfl, rfl, .inr ⟨rfl, fun k z => absurd z (Nat.not_lt_zero k)⟩⟩ ?_ ?_⟩
        · rintro i σ6 H6 hi ⟨x6, y6, rfl, rfl, vw⟩
          obtain ⟨sl, lg⟩ := small_str (k := 0 + (i : Int)) (by omega) (by omega)
          refine ⟨_, rfl, _, rfl, lg, _, _, rfl, rfl, ?_, _, rfl, pt, _, rfl, .inl (SqL.of et), rfl, strs_flat ts, _, rfl, ite2 (fun c => ?_) (fun c => ⟨_, _, rfl, rfl, ?_⟩)⟩
          · show 1 + _ ≤ sizeLine
            exact small_le (by omega)
          · refine ⟨_, rfl, _, rfl, lg, _, _, rfl, rfl, ?_, ⟨_, _, rfl, rfl, .inl ?_⟩⟩
            · show 1 + _ ≤ sizeLine
              exact small_le (by omega)
            · have c2 := not_in c
              show Nm (("v" : Str) ++ Str.ofString (toString (0 + (i : Int)))) ∧ ("v" : Str) ++ Str.ofString (toString (0 + (i : Int))) ∉ ts
              have c2 : ("v" : Str) ++ Str.ofString (toString (0 + (i : Int))) ∉ ts := c2
              rw [vS_val] at c2 ⊢
              exact ⟨vS_nm (by omega), c2⟩
          · have c2 : ("v" : Str) ++ Str.ofString (toString (0 + (i : Int))) ∈ ts := is_in c
            rw [vS_val] at c2
            exact vw.next c2
        · rintro σ6 H6 ⟨x6, y6, rfl, rfl, vw⟩
          obtain ⟨w1, w2⟩ := VW.fin vw h20
          exact ⟨_, _, rfl, b3, P3, w1, w2⟩

      · refine ⟨_, rfl, rfl, fun pk H5 s5 n5 e5 => ?_⟩
        have b5 := b3.trans (but_of s5)
        have P5 := P3.same s5
        have et5 := s5 _ _ et
        refine ⟨pk, _, rfl, .inl (SqL.of e5), rfl, strs_flat kwL, _, rfl, ite2 (fun _ => ?_) (fun c2 => ⟨_, _, rfl, b5, P5, ⟨xF, inv_f c2⟩, inv_f c1⟩)⟩
        refine ⟨20, rfl, by decide, by decide, for_range (fun i σ' H' => ∃ (x : Str) (y : Option V), σ' = [some (.ref p), some (.ref pt), some (.str ldN), some (.str x), y] ∧ H' = H5 ∧ VW ts x0 i x) ⟨_, _, rfl, rfl, .inr ⟨rfl, fun k z => absurd z (Nat.not_lt_zero k)⟩⟩ ?_ ?_⟩
        · rintro i σ6 H6 hi ⟨x6, y6, rfl, rfl, vw⟩
          obtain ⟨sl, lg⟩ := small_str (k := 0 + (i : Int)) (by omega) (by omega)
          refine ⟨_, rfl, _, rfl, lg, _, _, rfl, rfl, ?_, _, rfl, pt, _, rfl, .inl (SqL.of et5), rfl, strs_flat ts, _, rfl, ite2 (fun c => ?_) (fun c => ⟨_, _, rfl, rfl, ?_⟩)⟩
          · show 1 + _ ≤ sizeLine
            exact small_le (by omega)
          · refine ⟨_, rfl, _, rfl, lg, _, _, rfl, rfl, ?_, ⟨_, _, rfl, rfl, .inl ?_⟩⟩
            · show 1 + _ ≤ sizeLine
              exact small_le (by omega)
            · have c2 := not_in c
              show Nm (("v" : Str) ++ Str.ofString (toString (0 + (i : Int)))) ∧ ("v" : Str) ++ Str.ofString (toString (0 + (i : Int))) ∉ ts
              have c2 : ("v" : Str) ++ Str.ofString (toString (0 + (i : Int))) ∉ ts := c2
              rw [vS_val] at c2 ⊢
              exact ⟨vS_nm (by omega), c2⟩
          · have c2 : ("v" : Str) ++ Str.ofString (toString (0 + (i : Int))) ∈ ts := is_in c
            rw [vS_val] at c2
            exact vw.next c2
        · rintro σ6 H6 ⟨x6, y6, rfl, rfl, vw⟩
          obtain ⟨w1, w2⟩ := VW.fin vw h20
          exact ⟨_, _, rfl, b5, P5, w1, w2⟩
    · rintro σ4 H4 ⟨x, y, rfl, b4, P4, nx, fx⟩
      exact ⟨_, rfl, q x H4 nx fx b4 P4⟩
/-! ### _law_expression -/
def signM : List Str := ["+", "-", "*", "/", "mod", "<", "=", "+", "-"]
/-- words and what is left of the budget -/
def Cost (k : Nat) (w : Nat) (b b' : Int) (e : Nat) : Prop := w + k * b'.toNat ≤ k * b.toNat + e
def sp_law_expression (T : Txt K mg w) (n : Nat) : Sp := fun vs H Q _ => ∃ (p c pn pp : Addr) (ns ps : List Str) (deep b : Int), vs = [.ref p, .ref pn, .ref pp, .int deep] ∧ 1 ≤ deep ∧ deep ≤ n ∧ Pool H p c b ∧ pn ≠ p ∧ pp ≠ p ∧ H pn = some (.lst (ns.map V.str)) ∧ H pp = some (.lst (ps.map V.str)) ∧
  ns.length ≤ 100 ∧ ps.length ≤ 100 ∧ ∀ (v : V) (e : Ex) (H' : Hp) (b' : Int), Ev H' v e → (e.deep : Int) ≤ deep → e.Wf ns ps → e.Se false → But p H H' → Pool H' p c b' → Cost 3 e.words.length b b' 1 → b'.toNat ≤ b.toNat → Q v H'
theorem no_law_expression (T : Txt K mg w) : ∀ vs H Q E, ¬ sp_law_expression T 0 vs H Q E := fun vs H Q E ⟨_, _, _, _, _, _, _, _, _, h1, h2, _⟩ => by omega

theorem step_law_expression (T : Txt K mg w) {n : Nat} (G : FnOk P w K mg base CX0 (2 + n) T.a_law_expression T.d_law_expression ["pool", "names", "picks", "deep"] (sp_law_expression T n)) : FnOk P w K mg base CX0 (2 + n + 1) T.a_law_expression T.d_law_expression ["pool", "names", "picks", "deep"] (sp_law_expression T (n + 1)) := by
  refine T.F_law_expression.ok sc_law_expression (fun vs H Q E h => ?_) (fun cdv A outer s H vs Q E hr h => ?_)
  · obtain ⟨p, c, pn, pp, ns, ps, deep, b, rfl, _⟩ := h
    rfl
  obtain ⟨p, c, pn, pp, ns, ps, deep, b, rfl, d0, d1, hP, npn, npp, hn, hp, ln, lp, q⟩ := h
  refine ⟨_, (pss_cons (ps_set (i := 4) sc_law_expression.nd rfl (by first | exact Or.inl rfl | exact Or.inr rfl) (pe_call (ok_law_draw T) (hr.mono (by omega)) (by rfl) T.m_law_draw T.F_law_draw.kp T.b_law_draw .nil pass0 (pa_cons (pv 0) (pa_cons pe_int pa_nil))))
      (C8.pss_cut (ps_if (PW.pt (pw_and (pt_cmpR op_gt (pv 3) pe_int (nomark _)) (pw_and (pt_cmpR op_lt (pv 4) pe_int (nomark _)) (pw_and1 (pt_truth (pe_call (ok_law_spend T) (hr.mono (by omega)) (by rfl) T.m_law_spend T.F_law_spend.kp T.b_law_spend .nil pass0 (pa_cons (pv 0) pa_nil)) (fun _ => rfl)))))) (C8.pss_cut (ps_if (PW.pt (pw_and (pt_cmpR op_gt (pv 4) pe_int (nomark _)) (pw_and1 (pt_truth (pv 2) (fun _ => rfl))))) (pss_cons (ps_set (i := 5) sc_law_expression.nd rfl (by first | exact Or.inl rfl | exact Or.inr rfl) (pe_ix ix_list (pv 2) (pe_call (ok_law_draw T) (hr.mono (by omega)) (by rfl) T.m_law_draw T.F_law_draw.kp T.b_law_draw .nil pass0 (pa_cons (pv 0) (pa_cons (pe_callB call_len_seq (by rfl) T.z_len (by first | exact PySem.boot_len | decide +kernel) (pa_cons (pv 2) pa_nil)) pa_nil))) (fun _ _ => rfl)))
      (pss_cons (ps_set (i := 6) sc_law_expression.nd rfl (by first | exact Or.inl rfl | exact Or.inr rfl) (pe_call G hr (by rfl) T.m_law_expression T.F_law_expression.kp T.b_law_expression .nil pass0 (pa_cons (pv 0) (pa_cons (pv 1) (pa_cons (pv 2) (pa_cons (pe_op op_sub (pv 3) pe_int) pa_nil))))))
      (pss_one (ps_ret (pe_tup (pa_cons pe_str (pa_cons (pv 5) (pa_cons (pv 6) (pa_cons (pe_call G hr (by rfl) T.m_law_expression T.F_law_expression.kp T.b_law_expression .nil pass0 (pa_cons (pv 0) (pa_cons (pv 1) (pa_cons (pv 2) (pa_cons (pe_op op_sub (pv 3) pe_int) pa_nil))))) pa_nil))))))))) pss_nil)
      (pss_cons (ps_set (i := 7) sc_law_expression.nd rfl (by first | exact Or.inl rfl | exact Or.inr rfl) (pe_ix ix_tup (pe_tup (pa_cons pe_str (pa_cons pe_str (pa_cons pe_str (pa_cons pe_str (pa_cons pe_str (pa_cons pe_str (pa_cons pe_str (pa_cons pe_str (pa_cons pe_str pa_nil)))))))))) (pv 4) (fun _ _ => rfl)))
      (pss_cons (ps_set (i := 6) sc_law_expression.nd rfl (by first | exact Or.inl rfl | exact Or.inr rfl) (pe_call G hr (by rfl) T.m_law_expression T.F_law_expression.kp T.b_law_expression .nil pass0 (pa_cons (pv 0) (pa_cons (pv 1) (pa_cons (pv 2) (pa_cons (pe_op op_sub (pv 3) pe_int) pa_nil))))))
      (pss_one (ps_ret (pe_tup (pa_cons (pv 7) (pa_cons (pv 6) (pa_cons (pe_call G hr (by rfl) T.m_law_expression T.F_law_expression.kp T.b_law_expression .nil pass0 (pa_cons (pv 0) (pa_cons (pv 1) (pa_cons (pv 2) (pa_cons (pe_op op_sub (pv 3) pe_int) pa_nil))))) pa_nil))))))))) pss_nil)
      (pss_cons (ps_if (PW.pt (pw_and (pt_truth (pv 1) (fun _ => rfl)) (pw_and1 (pt_cmpR op_eq (pe_op op_mod (pe_callTy call_int1 (by rfl) T.z_int (by first | exact PySem.boot_int | decide +kernel) (pa_cons (pv 4) pa_nil)) pe_int) pe_int (nomark _))))) (pss_one (ps_ret (pe_tup (pa_cons pe_str (pa_cons (pe_ix ix_list (pv 1) (pe_call (ok_law_draw T) (hr.mono (by omega)) (by rfl) T.m_law_draw T.F_law_draw.kp T.b_law_draw .nil pass0 (pa_cons (pv 0) (pa_cons (pe_callB call_len_seq (by rfl) T.z_len (by first | exact PySem.boot_len | decide +kernel) (pa_cons (pv 1) pa_nil)) pa_nil))) (fun _ _ => rfl)) pa_nil))))) pss_nil)
      (pss_one (ps_ret (pe_tup (pa_cons pe_str (pa_cons (pe_call (ok_law_number T) (hr.mono (by omega)) (by rfl) T.m_law_number T.F_law_number.kp T.b_law_number .nil pass0 (pa_cons (pv 0) pa_nil)) pa_nil)))))))), ?_⟩
  refine ⟨_, rfl, p, c, 14, b, rfl, by decide, by decide, hP, fun k H1 h0 h1 b1 P1 => ?_⟩
  refine ⟨fun σ' H' => ∃ (y1 y2 y3 : Option V) (b' : Int), σ' = [some (.ref p), some (.ref pn), some (.ref pp), some (.int deep), some (.int k), y1, y2, y3] ∧ But p H H' ∧ Pool H' p c b' ∧ b'.toNat ≤ b.toNat, ?_, ?_⟩
  · refine ⟨_, rfl, _, _, rfl, rfl, _, rfl, ite2 (fun c1 => ?_) (fun _ => ⟨_, _, _, b, rfl, b1, P1, Nat.le_refl _⟩)⟩
    refine ⟨_, rfl, _, _, rfl, rfl, _, rfl, ite2 (fun c2 => ?_) (fun _ => ⟨_, _, _, b, rfl, b1, P1, Nat.le_refl _⟩)⟩
    have c1' : (1 : Int) < deep := of_decide_eq_true c1
    have c2' : k < (9 : Int) := of_decide_eq_true c2
    refine ⟨_, rfl, p, c, b, rfl, P1, fun kk H2 hk b2 P2 => ⟨_, rfl, ite2 (fun ck => ?_) (fun _ => ⟨_, _, _, b - 1, rfl, b1.trans b2, P2, by omega⟩)⟩⟩
    have bpos : 1 ≤ b := hk.mp ck
    have bb := b1.trans b2
    refine ⟨fun σ' H' => ∃ (y1 y2 y3 : Option V), σ' = [some (.ref p), some (.ref pn), some (.ref pp), some (.int deep), some (.int k), y1, y2, y3] ∧ H' = H2, ?_, ?_⟩
    · refine ⟨_, rfl, _, _, rfl, rfl, _, rfl, ite2 (fun c4 => ⟨_, rfl, _, .inl ⟨_, SqL.of (bb _ _ npp hp), rfl⟩, ite2 (fun c5 => ?_) (fun _ => ⟨_, _, _, rfl, rfl⟩)⟩) (fun _ => ⟨_, _, _, rfl, rfl⟩)⟩
      have lpos : 0 < ps.length := by
        cases ps with
        | nil => cases c5
        | cons x r => exact Nat.succ_pos _
      refine ⟨_, rfl, _, rfl, _, rfl, pp, _, rfl, .inl (SqL.of (bb _ _ npp hp)), p, c, ((ps.map V.str).length : Int), b - 1, rfl, by rw [List.length_map]; omega, by rw [List.length_map]; omega, P2, fun j H3 j0 j1 b3 P3 => ?_⟩
      rw [List.length_map] at j1
      obtain ⟨x, mx, ax⟩ := pick j0 j1
      have bc := bb.trans b3
      refine ⟨pp, _, j, _, rfl, rfl, SqL.of (bc _ _ npp hp), ax, ?_⟩
      refine ⟨_, rfl, _, rfl, _, rfl, _, rfl, _, _, rfl, rfl, p, c, pn, pp, ns, ps, deep - 1, b - 1, rfl, by omega, by omega, P3, npn, npp, bc _ _ npn hn, bc _ _ npp hp, ln, lp, fun v e H4 b4' ev ed ew es b4 P4 k4 m4 => ?_⟩
      have bd := bc.trans b4
      refine ⟨_, rfl, _, rfl, _, rfl, _, rfl, _, rfl, _, rfl, _, _, rfl, rfl, p, c, pn, pp, ns, ps, deep - 1, b4', rfl, by omega, by omega, P4, npn, npp, bd _ _ npn hn, bd _ _ npp hp, ln, lp, fun v2 e2 H5 b5' ev2 ed2 ew2 es2 b5 P5 k5 m5 => ⟨by show 4 ≤ sizeLine; decide, fun U hU => ?_⟩⟩
      have kT := (P4.keepT b5).trans (keepT_of (same_upd (o := .tup [V.str "pick", .str x, v, v2]) hU))
      refine q _ (.pick x e e2) _ b5' (.pick upd_same (ev.keep kT) (ev2.keep (keepT_of (same_upd hU)))) ?_ ⟨mx, ew, ew2⟩ ⟨es, es2⟩ ((bd.trans b5).trans (but_of (same_upd hU))) (P5.upd (P5.ne hU) (P5.ne2 hU) _) ?_ (by omega)
      · show ((max e.deep e2.deep + 1 : Nat) : Int) ≤ deep
        omega
      · unfold Cost at k4 k5 ⊢
        show (e.words ++ e2.words).length + 1 + 1 + _ ≤ _
        rw [List.length_append]
        omega
    · rintro σ4 H4 ⟨y1, y2, y3, rfl, rfl⟩
      refine ⟨by show 9 ≤ sizeLine; decide, fun U0 hU0 => ?_⟩
      have s3 := same_upd (o := .tup (signM.map V.str)) hU0
      have P3 := P2.upd (P2.ne hU0) (P2.ne2 hU0) (.tup (signM.map V.str))
      obtain ⟨z, mz, az⟩ := pick (ss := signM) h0 (by show k < 9; omega)
      have hz : z ∈ opL := by
        have : signM.all (fun s => decide (s ∈ opL)) = true := by decide +kernel
        exact of_decide_eq_true (List.all_eq_true.mp this z mz)
      have bc := bb.trans (but_of s3)
      refine ⟨_, rfl, U0, _, k, _, rfl, rfl, SqT.of upd_same, az, ?_⟩
      refine ⟨_, rfl, _, rfl, _, rfl, _, rfl, _, _, rfl, rfl, p, c, pn, pp, ns, ps, deep - 1, b - 1, rfl, by omega, by omega, P3, npn, npp, bc _ _ npn hn, bc _ _ npp hp, ln, lp, fun v e H4 b4' ev ed ew es b4 P4 k4 m4 => ?_⟩
      have bd := bc.trans b4
      refine ⟨_, rfl, _, rfl, _, rfl, _, rfl, _, rfl, _, rfl, _, _, rfl, rfl, p, c, pn, pp, ns, ps, deep - 1, b4', rfl, by omega, by omega, P4, npn, npp, bd _ _ npn hn, bd _ _ npp hp, ln, lp, fun v2 e2 H5 b5' ev2 ed2 ew2 es2 b5 P5 k5 m5 => ⟨by show 3 ≤ sizeLine; decide, fun U hU => ?_⟩⟩
      have kT := (P4.keepT b5).trans (keepT_of (same_upd (o := .tup [V.str z, v, v2]) hU))
      refine q _ (.op z e e2) _ b5' (.op upd_same (ev.keep kT) (ev2.keep (keepT_of (same_upd hU)))) ?_ ⟨hz, ew, ew2⟩ ⟨es, es2⟩ ((bd.trans b5).trans (but_of (same_upd hU))) (P5.upd (P5.ne hU) (P5.ne2 hU) _) ?_ (by omega)
      · show ((max e.deep e2.deep + 1 : Nat) : Int) ≤ deep
        omega
      · unfold Cost at k4 k5 ⊢
        show (e.words ++ e2.words).length + 1 + _ ≤ _
        rw [List.length_append]
        omega
  · rintro σ2 H2 ⟨y1, y2, y3, b', rfl, b2, P2, m2⟩
    refine ⟨_, rfl, _, .inl ⟨_, SqL.of (b2 _ _ npn hn), rfl⟩, ite2 (fun c1 => ⟨_, rfl, .inl ⟨_, rfl, _, _, rfl, rfl, (by show (0 : Int) < 2; decide), rfl, _, rfl, ite2 (fun _ => ?_) (fun _ => ?_)⟩⟩) (fun _ => ?_)⟩
    · have lpos : 0 < ns.length := by
        cases ns with
        | nil => cases c1
        | cons x r => exact Nat.succ_pos _
      refine ⟨_, rfl, _, rfl, _, rfl, pn, _, rfl, .inl (SqL.of (b2 _ _ npn hn)), p, c, ((ns.map V.str).length : Int), b', rfl, by rw [List.length_map]; omega, by rw [List.length_map]; omega, P2, fun j H3 j0 j1 b3 P3 => ?_⟩
      rw [List.length_map] at j1
      obtain ⟨x, mx, ax⟩ := pick j0 j1
      have bc := b2.trans b3
      refine ⟨pn, _, j, _, rfl, rfl, SqL.of (bc _ _ npn hn), ax, ⟨by show 2 ≤ sizeLine; decide, fun U hU => ?_⟩⟩
      exact q _ (.var x) _ b' (.var upd_same) d0 mx trivial (bc.trans (but_of (same_upd hU))) (P3.upd (P3.ne hU) (P3.ne2 hU) _) (by unfold Cost; show 1 + _ ≤ _; omega) m2
    · refine ⟨_, rfl, p, c, b', rfl, P2, fun m H3 bm b3 P3 => ⟨by show 2 ≤ sizeLine; decide, fun U hU => ?_⟩⟩
      exact q _ (.num m) _ b' (.num upd_same) d0 bm trivial ((b2.trans b3).trans (but_of (same_upd hU))) (P3.upd (P3.ne hU) (P3.ne2 hU) _) (by unfold Cost; show 1 + _ ≤ _; omega) m2
    · refine ⟨_, rfl, p, c, b', rfl, P2, fun m H3 bm b3 P3 => ⟨by show 2 ≤ sizeLine; decide, fun U hU => ?_⟩⟩
      exact q _ (.num m) _ b' (.num upd_same) d0 bm trivial ((b2.trans b3).trans (but_of (same_upd hU))) (P3.upd (P3.ne hU) (P3.ne2 hU) _) (by unfold Cost; show 1 + _ ≤ _; omega) m2
theorem ok_law_expression (T : Txt K mg w) : ∀ n, FnOk P w K mg base CX0 (2 + n) T.a_law_expression T.d_law_expression ["pool", "names", "picks", "deep"] (sp_law_expression T n)
  | 0 => ⟨fun vs H Q E h => absurd h (no_law_expression T vs H Q E), fun A outer s H args us vs Q E _ _ _ _ h => absurd h (no_law_expression T vs H Q E)⟩
  | n + 1 => step_law_expression T (ok_law_expression T n)
/-! ### _law_statement -/
/- statements that the law draws -/
/-- the state: moves, draws and moves -/
def Ct (H : Hp) (q : Addr) (a : Nat × Nat) : Prop := H q = some (.lst [.int ((a.2 : Nat) : Int), .int ((a.1 + a.2 : Nat) : Int)])
theorem Ct.same {H H' : Hp} {q : Addr} {a : Nat × Nat} (h : Ct H q a) (s : Same H H') : Ct H' q a := s _ _ h
theorem Ct.np {H : Hp} {p c q : Addr} {b : Int} {a : Nat × Nat} (h : Ct H q a) (g : Pool H p c b) : q ≠ p := fun z => by
  obtain ⟨ns, i, r, s, t, hp, _⟩ := g
  unfold Ct at h
  rw [z, hp] at h
  simp at h
theorem Ct.ns {H : Hp} {q n : Addr} {a : Nat × Nat} {ns : List Str} (h : Ct H q a) (g : H n = some (.lst (ns.map V.str))) : n ≠ q := fun z => by
  unfold Ct at h
  rw [← z, g] at h
  cases ns with
  | nil => cases h
  | cons x r => cases h
theorem keepT_2l {H H' : Hp} {p q : Addr} {xs ys : List V} (hp : H p = some (.lst xs)) (hq : H q = some (.lst ys)) (b : But2 p q H H') : KeepT H H' := fun c zs e => b c _ (fun z => by rw [z, hp] at e; cases e) (fun z => by rw [z, hq] at e; cases e) e
theorem Pool.keep2 {H H' : Hp} {p c q : Addr} {b : Int} {a : Nat × Nat} (h : Pool H p c b) (g : Ct H q a) (k : But2 p q H H') : KeepT H H' := by
  obtain ⟨ns, i, r, s, t, hp, _⟩ := h
  exact keepT_2l hp g k
theorem GL_snoc {vs os : List Str} : ∀ {ss : List St} {s : St} {a m b : Nat × Nat}, GL vs os ss a m → s.G vs os m b → GL vs os (ss ++ [s]) a b
  | [], _, _, _, _, h, g => by
    have e : _ = _ := h
    subst e
    exact ⟨_, g, rfl⟩
  | _ :: _, _, _, _, _, ⟨m, h1, h2⟩, g => ⟨m, h1, GL_snoc h2 g⟩
def Cost4 (w : Nat) (b b' : Int) (e : Nat) : Prop := w + 4 * b'.toNat ≤ 4 * b.toNat + e ∧ b'.toNat ≤ b.toNat
structure LGv (H : Hp) (p c pn pp q : Addr) (ns ps : List Str) (b : Int) (a : Nat × Nat) : Prop where
  P : Pool H p c b
  n1 : pn ≠ p
  n2 : pp ≠ p
  n : H pn = some (.lst (ns.map V.str))
  o : H pp = some (.lst (ps.map V.str))
  ln : ns.length ≤ 100
  lo : ps.length ≤ 100
  qc : q ≠ c
  s : Ct H q a
theorem LGv.mv {H H' : Hp} {p c pn pp q : Addr} {ns ps : List Str} {b b' : Int} {a a' : Nat × Nat} (h : LGv H p c pn pp q ns ps b a) (k : But2 p q H H') (P : Pool H' p c b') (s : Ct H' q a') : LGv H' p c pn pp q ns ps b' a' :=
  ⟨P, h.n1, h.n2, k _ _ h.n1 (h.s.ns h.n) h.n, k _ _ h.n2 (h.s.ns h.o) h.o, h.ln, h.lo, h.qc, s⟩
/-- a change of the pool alone -/
theorem LGv.pl {H H' : Hp} {p c pn pp q : Addr} {ns ps : List Str} {b b' : Int} {a : Nat × Nat} (h : LGv H p c pn pp q ns ps b a) (k : But p H H') (P : Pool H' p c b') : LGv H' p c pn pp q ns ps b' a :=
  h.mv (but2_l k) P (k _ _ (h.s.np h.P) h.s)
theorem LGv.same {H H' : Hp} {p c pn pp q : Addr} {ns ps : List Str} {b : Int} {a : Nat × Nat} (h : LGv H p c pn pp q ns ps b a) (k : Same H H') : LGv H' p c pn pp q ns ps b a :=
  h.mv (but2_s k) (h.P.same k) (h.s.same k)
theorem LGv.kT {H H' : Hp} {p c pn pp q : Addr} {ns ps : List Str} {b : Int} {a : Nat × Nat} (h : LGv H p c pn pp q ns ps b a) (k : But2 p q H H') : KeepT H H' := h.P.keep2 h.s k
def sp_law_block (T : Txt K mg w) (n : Nat) : Sp := fun vs H Q _ => ∃ (p c pn pp q : Addr) (ns ps : List Str) (deep : Nat) (di b : Int) (a : Nat × Nat), vs = [.ref p, .ref pn, .ref pp, .int di, .ref q] ∧ di = ((deep : Nat) : Int) ∧ deep + 1 ≤ n ∧ n ≤ 10 ∧ LGv H p c pn pp q ns ps b a ∧
  ∀ (r : Addr) (vs : List V) (ss : List St) (H' : Hp) (b' : Int) (a' : Nat × Nat), H' r = some (.tup vs) → Bv K H' vs ss → GL ns ps ss a a' → lvL ss ≤ deep → But2 p q H H' → LGv H' p c pn pp q ns ps b' a' → Cost4 (blockW ss).length b b' 0 → Q (.ref r) H'
theorem no_law_block (T : Txt K mg w) : ∀ vs H Q E, ¬ sp_law_block T 0 vs H Q E := fun vs H Q E ⟨_, _, _, _, _, _, _, _, _, _, _, _, _, h, _⟩ => by omega

def sp_law_statement (T : Txt K mg w) (n : Nat) : Sp := fun vs H Q _ => ∃ (p c pn pp q : Addr) (ns ps : List Str) (deep : Nat) (b : Int) (a : Nat × Nat), vs = [.ref p, .ref pn, .ref pp, .int ((deep : Nat) : Int), .ref q] ∧ deep ≤ n ∧ n ≤ 9 ∧ LGv H p c pn pp q ns ps b a ∧
  ∀ (v : V) (s : St) (H' : Hp) (b' : Int) (a' : Nat × Nat), Sv K H' v s → s.G ns ps a a' → s.lv ≤ deep → But2 p q H H' → LGv H' p c pn pp q ns ps b' a' → Cost4 s.words.length b b' 4 → Q v H'

theorem ok_law_statement (T : Txt K mg w) {n : Nat} (G : FnOk P w K mg base CX0 (15 + 2 * n) T.a_law_block T.d_law_block ["pool", "names", "picks", "deep", "state"] (sp_law_block T n)) : FnOk P w K mg base CX0 (15 + 2 * n + 1) T.a_law_statement T.d_law_statement ["pool", "names", "picks", "deep", "state"] (sp_law_statement T n) := by
  refine T.F_law_statement.ok sc_law_statement (fun vs H Q E h => ?_) (fun cdv A outer s H vs Q E hr h => ?_)
  · obtain ⟨p, c, pn, pp, q, ns, ps, deep, b, a, rfl, _⟩ := h
    rfl
  obtain ⟨p, c, pn, pp, q, ns, ps, deep, b, a, rfl, d1, n9, L, k⟩ := h
  refine ⟨_, (pss_cons (ps_set (i := 5) sc_law_statement.nd rfl (by first | exact Or.inl rfl | exact Or.inr rfl) (pe_call (ok_law_draw T) (hr.mono (by omega)) (by rfl) T.m_law_draw T.F_law_draw.kp T.b_law_draw .nil pass0 (pa_cons (pv 0) (pa_cons pe_int pa_nil))))
      (C8.pss_cut (ps_if (PW.pt (pw_and (pt_cmpR op_lt (pv 5) pe_int (nomark _)) (pw_and1 (pt_cmpR op_gt (pv 3) pe_int (nomark _))))) (pss_cons (ps_set (i := 6) sc_law_statement.nd rfl (by first | exact Or.inl rfl | exact Or.inr rfl) pe_str)
      (C8.pss_cut (ps_if (PW.pt (pw_and (pt_cmpR op_eq (pv 5) pe_int (nomark _)) (pw_and1 (pt_truth (pv 2) (fun _ => rfl))))) (pss_cons (ps_set (i := 6) sc_law_statement.nd rfl (by first | exact Or.inl rfl | exact Or.inr rfl) pe_str)
      (pss_one (ps_set (i := 7) sc_law_statement.nd rfl (by first | exact Or.inl rfl | exact Or.inr rfl) (pe_ix ix_list (pv 2) (pe_call (ok_law_draw T) (hr.mono (by omega)) (by rfl) T.m_law_draw T.F_law_draw.kp T.b_law_draw .nil pass0 (pa_cons (pv 0) (pa_cons (pe_callB call_len_seq (by rfl) T.z_len (by first | exact PySem.boot_len | decide +kernel) (pa_cons (pv 2) pa_nil)) pa_nil))) (fun _ _ => rfl))))) (pss_one (ps_set (i := 7) sc_law_statement.nd rfl (by first | exact Or.inl rfl | exact Or.inr rfl) (pe_call (ok_law_expression T 13) (hr.mono (by omega)) (by rfl) T.m_law_expression T.F_law_expression.kp T.b_law_expression .nil pass0 (pa_cons (pv 0) (pa_cons (pv 1) (pa_cons (pv 2) (pa_cons pe_int pa_nil))))))))
      (pss_cons (ps_set (i := 8) sc_law_statement.nd rfl (by first | exact Or.inl rfl | exact Or.inr rfl) (pe_call G (hr.mono (by omega)) (by rfl) T.m_law_block T.F_law_block.kp T.b_law_block .nil pass0 (pa_cons (pv 0) (pa_cons (pv 1) (pa_cons (pv 2) (pa_cons (pe_op op_sub (pv 3) pe_int) (pa_cons (pv 4) pa_nil)))))))
      (pss_one (ps_ret (pe_tup (pa_cons (pv 6) (pa_cons (pv 7) (pa_cons (pv 8) (pa_cons (pe_call G (hr.mono (by omega)) (by rfl) T.m_law_block T.F_law_block.kp T.b_law_block .nil pass0 (pa_cons (pv 0) (pa_cons (pv 1) (pa_cons (pv 2) (pa_cons (pe_op op_sub (pv 3) pe_int) (pa_cons (pv 4) pa_nil)))))) pa_nil)))))))))) pss_nil)
      (C8.pss_cut (ps_if (PW.pt (pw_and (pt_cmpR op_lt (pv 5) pe_int (nomark _)) (pw_and (pt_truth (pv 1) (fun _ => rfl)) (pw_and1 (pt_cmpR op_lt (pe_ix ix_list (pv 4) pe_int (fun _ _ => rfl)) pe_int (nomark _)))))) (pss_cons (ps_set (i := 9) sc_law_statement.nd rfl (by first | exact Or.inl rfl | exact Or.inr rfl) (pe_ix ix_list (pv 1) (pe_call (ok_law_draw T) (hr.mono (by omega)) (by rfl) T.m_law_draw T.F_law_draw.kp T.b_law_draw .nil pass0 (pa_cons (pv 0) (pa_cons (pe_callB call_len_seq (by rfl) T.z_len (by first | exact PySem.boot_len | decide +kernel) (pa_cons (pv 1) pa_nil)) pa_nil))) (fun _ _ => rfl)))
      (pss_cons (ps_asg (pe_op op_add (pe_ix ix_list (pv 4) pe_int (fun _ _ => rfl)) pe_int) (pg_sub (pv 4) pe_int set_list))
      (pss_cons (ps_if (pt_cmpR op_lt (pv 5) pe_int (nomark _)) (pss_one (ps_ret (pe_tup (pa_cons pe_str (pa_cons (pv 9) (pa_cons (pe_op op_add pe_int (pe_call (ok_law_draw T) (hr.mono (by omega)) (by rfl) T.m_law_draw T.F_law_draw.kp T.b_law_draw .nil pass0 (pa_cons (pv 0) (pa_cons pe_int pa_nil)))) pa_nil)))))) pss_nil)
      (pss_cons (ps_asg (pe_op op_add (pe_ix ix_list (pv 4) pe_int (fun _ _ => rfl)) pe_int) (pg_sub (pv 4) pe_int set_list))
      (pss_one (ps_ret (pe_tup (pa_cons pe_str (pa_cons (pe_op op_sub (pv 5) pe_int) (pa_cons (pv 9) (pa_cons (pe_op op_add pe_int (pe_call (ok_law_draw T) (hr.mono (by omega)) (by rfl) T.m_law_draw T.F_law_draw.kp T.b_law_draw .nil pass0 (pa_cons (pv 0) (pa_cons pe_int pa_nil)))) (pa_cons (pe_op op_sub (pe_ix ix_list (pv 4) pe_int (fun _ _ => rfl)) pe_int) pa_nil)))))))))))) pss_nil)
      (C8.pss_cut (ps_if (PW.pt (pw_and (pt_cmpR op_lt (pv 5) pe_int (nomark _)) (pw_and1 (pt_truth (pv 1) (fun _ => rfl))))) (pss_cons (ps_set (i := 9) sc_law_statement.nd rfl (by first | exact Or.inl rfl | exact Or.inr rfl) (pe_ix ix_list (pv 1) (pe_call (ok_law_draw T) (hr.mono (by omega)) (by rfl) T.m_law_draw T.F_law_draw.kp T.b_law_draw .nil pass0 (pa_cons (pv 0) (pa_cons (pe_callB call_len_seq (by rfl) T.z_len (by first | exact PySem.boot_len | decide +kernel) (pa_cons (pv 1) pa_nil)) pa_nil))) (fun _ _ => rfl)))
      (pss_one (ps_ret (pe_tup (pa_cons pe_str (pa_cons (pv 9) (pa_cons (pe_call (ok_law_expression T 13) (hr.mono (by omega)) (by rfl) T.m_law_expression T.F_law_expression.kp T.b_law_expression .nil pass0 (pa_cons (pv 0) (pa_cons (pv 1) (pa_cons (pv 2) (pa_cons pe_int pa_nil))))) pa_nil))))))) pss_nil)
      (pss_cons (ps_if (pt_cmpR op_eq (pv 5) pe_int (nomark _)) (pss_one (ps_ret (pe_tup (pa_cons pe_str (pa_cons (pe_call (ok_law_draw T) (hr.mono (by omega)) (by rfl) T.m_law_draw T.F_law_draw.kp T.b_law_draw .nil pass0 (pa_cons (pv 0) (pa_cons pe_int pa_nil))) (pa_cons (pe_call (ok_law_expression T 13) (hr.mono (by omega)) (by rfl) T.m_law_expression T.F_law_expression.kp T.b_law_expression .nil pass0 (pa_cons (pv 0) (pa_cons (pv 1) (pa_cons (pv 2) (pa_cons pe_int pa_nil))))) pa_nil)))))) pss_nil)
      (pss_one (ps_ret (pe_tup (pa_cons (pe_ix ix_tup (pe_tup (pa_cons pe_str (pa_cons pe_str pa_nil))) (pe_op op_mod (pe_callTy call_int1 (by rfl) T.z_int (by first | exact PySem.boot_int | decide +kernel) (pa_cons (pv 5) pa_nil)) pe_int) (fun _ _ => rfl)) (pa_cons (pe_call (ok_law_expression T 13) (hr.mono (by omega)) (by rfl) T.m_law_expression T.F_law_expression.kp T.b_law_expression .nil pass0 (pa_cons (pv 0) (pa_cons (pv 1) (pa_cons (pv 2) (pa_cons pe_int pa_nil))))) pa_nil)))))))))), ?_⟩
  refine ⟨_, rfl, p, c, 11, b, rfl, by decide, by decide, L.P, fun kd H1 h0 h1 b1 P1 => ?_⟩
  have L1 := L.pl b1 P1
  refine ⟨fun σ' H' => σ' = [some (.ref p), some (.ref pn), some (.ref pp), some (.int ((deep : Nat) : Int)), some (.ref q), some (.int kd), none, none, none, none] ∧ H' = H1, ?_, ?_⟩
  · refine ⟨_, rfl, _, _, rfl, rfl, _, rfl, ite2 (fun c1 => ?_) (fun _ => ⟨rfl, rfl⟩)⟩
    refine ⟨_, rfl, _, _, rfl, rfl, _, rfl, ite2 (fun c2 => ?_) (fun _ => ⟨rfl, rfl⟩)⟩
    have dpos : (0 : Int) < ((deep : Nat) : Int) := of_decide_eq_true c2
    obtain ⟨d', rfl⟩ : ∃ d', deep = d' + 1 := ⟨deep - 1, by omega⟩
    refine ⟨fun σ' H' => ∃ (w : Str) (t : V) (b' : Int), σ' = [some (.ref p), some (.ref pn), some (.ref pp), some (.int ((d' + 1 : Nat) : Int)), some (.ref q), some (.int kd), some (.str w), some t, none, none] ∧ LGv H' p c pn pp q ns ps b' a ∧ But p H1 H' ∧
      ((w = "if" ∧ ∃ e, EvK K H' t e ∧ EGd ns ps e ∧ Cost4 e.words.length b b' 1) ∨ (w = "when" ∧ b' = b ∧ ∃ o, t = .str o ∧ o ∈ ps)), ?_, ?_⟩
    · refine ⟨_, rfl, rfl, _, rfl, ite2 (fun c3 => ⟨_, rfl, _, .inl ⟨_, SqL.of L1.o, rfl⟩, ite2 (fun c4 => ?_) (fun _ => ?_)⟩) (fun _ => ?_)⟩
      · have lpos : 0 < ps.length := by
          cases ps with
          | nil => cases c4
          | cons x r => exact Nat.succ_pos _
        have lo := L1.lo
        refine ⟨_, rfl, _, rfl, _, rfl, pp, _, rfl, .inl (SqL.of L1.o), p, c, ((ps.map V.str).length : Int), b, rfl, by rw [List.length_map]; omega, by rw [List.length_map]; omega, L1.P, fun j H3 j0 j1 b3 P3 => ?_⟩
        rw [List.length_map] at j1
        obtain ⟨x, mx, ax⟩ := pick j0 j1
        have L3 := L1.pl b3 P3
        refine ⟨pp, _, j, _, rfl, rfl, SqL.of L3.o, ax, ?_⟩
        exact ⟨_, _, _, rfl, L3, b3, .inr ⟨rfl, rfl, x, rfl, mx⟩⟩
      · refine ⟨_, rfl, _, rfl, _, rfl, p, c, pn, pp, ns, ps, 12, b, rfl, by decide, by decide, L1.P, L1.n1, L1.n2, L1.n, L1.o, L1.ln, L1.lo, fun v e H4 b4' ev ed ew es b4 P4 k4 m4 => ?_⟩
        refine ⟨_, _, _, rfl, L1.pl b4 P4, b4, .inl ⟨rfl, e, ev.toK, ⟨ew, by omega, es⟩, ?_, m4⟩⟩
        unfold Cost at k4
        omega
      · refine ⟨_, rfl, _, rfl, _, rfl, p, c, pn, pp, ns, ps, 12, b, rfl, by decide, by decide, L1.P, L1.n1, L1.n2, L1.n, L1.o, L1.ln, L1.lo, fun v e H4 b4' ev ed ew es b4 P4 k4 m4 => ?_⟩
        refine ⟨_, _, _, rfl, L1.pl b4 P4, b4, .inl ⟨rfl, e, ev.toK, ⟨ew, by omega, es⟩, ?_, m4⟩⟩
        unfold Cost at k4
        omega
    · rintro σ2 H2 ⟨w, t, b2, rfl, L2, b12, way⟩
      refine ⟨_, rfl, _, rfl, _, rfl, _, rfl, _, _, rfl, rfl, _, rfl, p, c, pn, pp, q, ns, ps, d', _, b2, a, rfl, by omega, by omega, by omega, L2, fun r1 vs1 ss1 H3 b3' a3 e1 bv1 g1 l1 b3 L3 k3 => ?_⟩
      refine ⟨_, rfl, _, rfl, _, rfl, _, rfl, _, rfl, _, rfl, _, rfl, _, _, rfl, rfl, _, rfl, p, c, pn, pp, q, ns, ps, d', _, b3', a3, rfl, by omega, by omega, by omega, L3, fun r2 vs2 ss2 H4 b4' a4 e2 bv2 g2 l2 b4 L4 k4 => ⟨by show 4 ≤ sizeLine; decide, fun U hU => ?_⟩⟩
      have sU := same_upd (o := .tup [V.str w, t, .ref r1, .ref r2]) hU
      have kT := (L3.kT b4).trans (keepT_of sU)
      have kA := (L2.kT b3).trans kT
      have bA : But2 p q H (upd H4 U (.tup [V.str w, t, .ref r1, .ref r2])) := (but2_l (b1.trans b12)).trans (b3.trans (b4.trans (but2_s sU)))
      have lv : max (lvL ss1) (lvL ss2) + 1 ≤ d' + 1 := by omega
      have wl : (branchW ss1 ss2).length ≤ (blockW ss1).length + (blockW ss2).length + 2 := by
        unfold branchW
        rw [List.length_append, List.length_append]
        have : (if ss2 = [] then [] else (("else" : Str) :: blockW ss2)).length ≤ (blockW ss2).length + 1 := by
          split
          · exact Nat.zero_le _
          · exact Nat.le_refl _
        have : (["end"] : List Str).length = 1 := rfl
        omega
      obtain ⟨k3a, k3b⟩ := k3
      obtain ⟨k4a, k4b⟩ := k4
      rcases way with ⟨rfl, e, ev, eg, k1a, k1b⟩ | ⟨rfl, rfl, o, rfl, mo⟩
      · refine k _ (.ite e ss1 ss2) _ b4' a4 (.ite (.inl upd_same) (ev.keep kA) (.inl (kT _ _ e1)) (bv1.keep kT) (.inl (sU _ _ e2)) (bv2.keep (keepT_of sU))) ⟨eg, a3, g1, g2⟩ lv bA (L4.same sU) ⟨?_, by omega⟩
        show (e.words ++ branchW ss1 ss2).length + 1 + _ ≤ _
        rw [List.length_append]
        omega
      · refine k _ (.whn o ss1 ss2) _ b4' a4 (.whn (.inl upd_same) (.inl (kT _ _ e1)) (bv1.keep kT) (.inl (sU _ _ e2)) (bv2.keep (keepT_of sU))) ⟨mo, a3, g1, g2⟩ lv bA (L4.same sU) ⟨?_, by omega⟩
        show (branchW ss1 ss2).length + 1 + 1 + _ ≤ _
        omega
  rintro σ2 H2 ⟨rfl, rfl⟩
  refine ⟨fun σ' H' => σ' = [some (.ref p), some (.ref pn), some (.ref pp), some (.int ((deep : Nat) : Int)), some (.ref q), some (.int kd), none, none, none, none] ∧ H' = H2, ?_, ?_⟩
  · refine ⟨_, rfl, _, _, rfl, rfl, _, rfl, ite2 (fun c1 => ?_) (fun _ => ⟨rfl, rfl⟩)⟩
    refine ⟨_, rfl, _, .inl ⟨_, SqL.of L1.n, rfl⟩, ite2 (fun c2 => ?_) (fun _ => ⟨rfl, rfl⟩)⟩
    refine ⟨_, rfl, q, _, 1, .int ((a.1 + a.2 : Nat) : Int), rfl, rfl, SqL.of L1.s, atI_nat (j := 1) rfl, _, _, rfl, rfl, _, rfl, ite2 (fun c3 => ?_) (fun _ => ⟨rfl, rfl⟩)⟩
    have c1' : kd < (6 : Int) := of_decide_eq_true c1
    have c3' : ((a.1 + a.2 : Nat) : Int) < (24 : Int) := of_decide_eq_true c3
    have lpos : 0 < ns.length := by
      cases ns with
      | nil => cases c2
      | cons x r => exact Nat.succ_pos _
    have ln := L1.ln
    refine ⟨_, rfl, _, rfl, _, rfl, pn, _, rfl, .inl (SqL.of L1.n), p, c, ((ns.map V.str).length : Int), b, rfl, by rw [List.length_map]; omega, by rw [List.length_map]; omega, L1.P, fun j H4 j0 j1 b4 P4 => ?_⟩
    rw [List.length_map] at j1
    obtain ⟨x, mx, ax⟩ := pick j0 j1
    have L4 := L1.pl b4 P4
    refine ⟨pn, _, j, _, rfl, rfl, SqL.of L4.n, ax, ?_⟩
    refine ⟨_, rfl, q, _, 1, .int ((a.1 + a.2 : Nat) : Int), rfl, rfl, SqL.of L4.s, atI_nat (j := 1) rfl, _, _, rfl, rfl, _, rfl, q, _, 1, 1, rfl, rfl, L4.s, rfl, ?_⟩
    have st : ([V.int ((a.2 : Nat) : Int), .int ((a.1 + a.2 : Nat) : Int)].set 1 (.int (((a.1 + a.2 : Nat) : Int) + 1))) = [V.int ((a.2 : Nat) : Int), .int ((a.1 + a.2 + 1 : Nat) : Int)] := rfl
    rw [st]
    have b5 : But q H4 (upd H4 q (.lst [V.int ((a.2 : Nat) : Int), .int ((a.1 + a.2 + 1 : Nat) : Int)])) := but_upd
    have e5 : upd H4 q (.lst [V.int ((a.2 : Nat) : Int), .int ((a.1 + a.2 + 1 : Nat) : Int)]) q = some (.lst [V.int ((a.2 : Nat) : Int), .int ((a.1 + a.2 + 1 : Nat) : Int)]) := upd_same
    revert b5 e5
    generalize upd H4 q (.lst [V.int ((a.2 : Nat) : Int), .int ((a.1 + a.2 + 1 : Nat) : Int)]) = H5
    intro b5 e5
    have nqp : q ≠ p := L4.s.np L4.P
    have P5 : Pool H5 p c b := by
      obtain ⟨zs, i, r, s, t, hp, hc, hi, hcp⟩ := L4.P
      exact ⟨zs, i, r, s, t, b5 _ _ nqp.symm hp, b5 _ _ L4.qc.symm hc, hi, hcp⟩
    refine ⟨_, rfl, _, _, rfl, rfl, _, rfl, ite2 (fun c4 => ?_) (fun c4 => ?_)⟩
    · refine ⟨_, rfl, _, rfl, p, c, 64, b, rfl, by decide, by decide, P5, fun n H6 m0 m1 b6 P6 => ⟨_, _, rfl, rfl, by show 3 ≤ sizeLine; decide, fun U hU => ?_⟩⟩
      have sU := same_upd (o := .tup [V.str "draw", .str x, .int (1 + n)]) hU
      have ct : Ct H6 q (a.1 + 1, a.2) := by
        show H6 q = some (.lst [.int ((a.2 : Nat) : Int), .int ((a.1 + 1 + a.2 : Nat) : Int)])
        rw [show a.1 + 1 + a.2 = a.1 + a.2 + 1 by omega]
        exact b6 _ _ nqp e5
      have bA : But2 p q H4 (upd H6 U (.tup [V.str "draw", .str x, .int (1 + n)])) := (but2_r b5).trans ((but2_l b6).trans (but2_s sU))
      refine k _ (.draw x (1 + n)) _ b (a.1 + 1, a.2) (.draw (.inl upd_same)) ⟨mx, by omega, by omega, rfl⟩ (Nat.zero_le _) ((but2_l (b1.trans b4)).trans bA) (L4.mv bA (P6.same sU) (ct.same sU)) ⟨?_, Nat.le_refl _⟩
      show 3 + _ ≤ _
      omega
    · have c4' : ¬ kd < (4 : Int) := fun z => c4 (decide_eq_true z)
      refine ⟨_, rfl, q, _, 0, .int ((a.2 : Nat) : Int), rfl, rfl, SqL.of e5, atI_nat (j := 0) rfl, _, _, rfl, rfl, _, rfl, q, _, 0, 0, rfl, rfl, e5, rfl, ?_⟩
      have st : ([V.int ((a.2 : Nat) : Int), .int ((a.1 + a.2 + 1 : Nat) : Int)].set 0 (.int (((a.2 : Nat) : Int) + 1))) = [V.int ((a.2 + 1 : Nat) : Int), .int ((a.1 + a.2 + 1 : Nat) : Int)] := rfl
      rw [st]
      have b6 : But q H5 (upd H5 q (.lst [V.int ((a.2 + 1 : Nat) : Int), .int ((a.1 + a.2 + 1 : Nat) : Int)])) := but_upd
      have e6 : upd H5 q (.lst [V.int ((a.2 + 1 : Nat) : Int), .int ((a.1 + a.2 + 1 : Nat) : Int)]) q = some (.lst [V.int ((a.2 + 1 : Nat) : Int), .int ((a.1 + a.2 + 1 : Nat) : Int)]) := upd_same
      revert b6 e6
      generalize upd H5 q (.lst [V.int ((a.2 + 1 : Nat) : Int), .int ((a.1 + a.2 + 1 : Nat) : Int)]) = H6
      intro b6 e6
      have P6 : Pool H6 p c b := by
        obtain ⟨zs, i, r, s, t, hp, hc, hi, hcp⟩ := P5
        exact ⟨zs, i, r, s, t, b6 _ _ nqp.symm hp, b6 _ _ L4.qc.symm hc, hi, hcp⟩
      refine ⟨_, rfl, _, _, rfl, rfl, _, rfl, _, rfl, p, c, 8, b, rfl, by decide, by decide, P6, fun n H7 m0 m1 b7 P7 => ⟨_, _, rfl, rfl, ?_⟩⟩
      have e7 := b7 _ _ nqp e6
      refine ⟨_, rfl, q, _, 0, .int ((a.2 + 1 : Nat) : Int), rfl, rfl, SqL.of e7, atI_nat (j := 0) rfl, _, _, rfl, rfl, by show 5 ≤ sizeLine; decide, fun U hU => ?_⟩
      show Q (.ref U) (upd H7 U (.tup [V.str "move", .int (kd - 3), .str x, .int (1 + n), .int (((a.2 + 1 : Nat) : Int) - 1)]))
      rw [show ((a.2 + 1 : Nat) : Int) - 1 = ((a.2 : Nat) : Int) by omega]
      have sU := same_upd (o := .tup [V.str "move", .int (kd - 3), .str x, .int (1 + n), .int ((a.2 : Nat) : Int)]) hU
      have ct : Ct H7 q (a.1, a.2 + 1) := e7
      have bA : But2 p q H4 (upd H7 U (.tup [V.str "move", .int (kd - 3), .str x, .int (1 + n), .int ((a.2 : Nat) : Int)])) := (but2_r (b5.trans b6)).trans ((but2_l b7).trans (but2_s sU))
      refine k _ (.move (kd - 3) x (1 + n) ((a.2 : Nat) : Int)) _ b (a.1, a.2 + 1) (.move (.inl upd_same)) ⟨by omega, mx, by omega, rfl, by omega, rfl⟩ (Nat.zero_le _) ((but2_l (b1.trans b4)).trans bA) (L4.mv bA (P7.same sU) (ct.same sU)) ⟨?_, Nat.le_refl _⟩
      show 3 + _ ≤ _
      omega
  rintro σ3 H3 ⟨rfl, rfl⟩
  refine ⟨fun σ' H' => σ' = [some (.ref p), some (.ref pn), some (.ref pp), some (.int ((deep : Nat) : Int)), some (.ref q), some (.int kd), none, none, none, none] ∧ H' = H3, ?_, ?_⟩
  · refine ⟨_, rfl, _, _, rfl, rfl, _, rfl, ite2 (fun c1 => ?_) (fun _ => ⟨rfl, rfl⟩)⟩
    refine ⟨_, rfl, _, .inl ⟨_, SqL.of L1.n, rfl⟩, ite2 (fun c2 => ?_) (fun _ => ⟨rfl, rfl⟩)⟩
    have lpos : 0 < ns.length := by
      cases ns with
      | nil => cases c2
      | cons x r => exact Nat.succ_pos _
    have ln := L1.ln
    refine ⟨_, rfl, _, rfl, _, rfl, pn, _, rfl, .inl (SqL.of L1.n), p, c, ((ns.map V.str).length : Int), b, rfl, by rw [List.length_map]; omega, by rw [List.length_map]; omega, L1.P, fun j H4 j0 j1 b4 P4 => ?_⟩
    rw [List.length_map] at j1
    obtain ⟨x, mx, ax⟩ := pick j0 j1
    have L4 := L1.pl b4 P4
    refine ⟨pn, _, j, _, rfl, rfl, SqL.of L4.n, ax, ?_⟩
    refine ⟨_, rfl, _, rfl, _, rfl, _, rfl, p, c, pn, pp, ns, ps, 12, b, rfl, by decide, by decide, L4.P, L4.n1, L4.n2, L4.n, L4.o, L4.ln, L4.lo, fun v e H5 b5' ev ed ew es b5 P5 k5 m5 => ⟨by show 3 ≤ sizeLine; decide, fun U hU => ?_⟩⟩
    have sU := same_upd (o := .tup [V.str "set", .str x, v]) hU
    have L5 := (L4.pl b5 P5).same sU
    refine k _ (.set x e) _ b5' a (.set (.inl upd_same) (ev.keep (keepT_of sU)).toK) ⟨mx, ⟨ew, by omega, es⟩, rfl⟩ (Nat.zero_le _) ?_ L5 ⟨?_, m5⟩
    · exact but2_l (b1.trans (b4.trans (b5.trans (but_of sU))))
    · unfold Cost at k5
      show e.words.length + 1 + 1 + _ ≤ _
      omega
  rintro σ4 H4 ⟨rfl, rfl⟩
  refine ⟨_, rfl, rfl, _, rfl, ite2 (fun c1 => ?_) (fun c1 => ?_)⟩
  · refine ⟨_, rfl, p, c, 3, b, rfl, by decide, by decide, L1.P, fun s H4 s0 s1 b4 P4 => ?_⟩
    have L4 := L1.pl b4 P4
    refine ⟨_, rfl, _, rfl, _, rfl, p, c, pn, pp, ns, ps, 12, b, rfl, by decide, by decide, L4.P, L4.n1, L4.n2, L4.n, L4.o, L4.ln, L4.lo, fun v e H5 b5' ev ed ew es b5 P5 k5 m5 => ⟨by show 3 ≤ sizeLine; decide, fun U hU => ?_⟩⟩
    have sU := same_upd (o := .tup [V.str "show", .int s, v]) hU
    have L5 := (L4.pl b5 P5).same sU
    refine k _ (.show s e) _ b5' a (.show (.inl upd_same) (ev.keep (keepT_of sU)).toK) ⟨⟨s0, s1⟩, ⟨ew, by omega, es⟩, rfl⟩ (Nat.zero_le _) ?_ L5 ⟨?_, m5⟩
    · exact but2_l (b1.trans (b4.trans (b5.trans (but_of sU))))
    · unfold Cost at k5
      show e.words.length + 1 + 1 + _ ≤ _
      omega
  · refine ⟨by show 2 ≤ sizeLine; decide, fun U0 hU0 => ?_⟩
    have s0 := same_upd (o := .tup [V.str "pay", .str "take"]) hU0
    have L4 := L1.same s0
    refine ⟨_, rfl, .inl ⟨_, rfl, _, _, rfl, rfl, (by show (0 : Int) < 2; decide), ?_⟩⟩
    obtain ⟨z, mz, az⟩ := pick (ss := ["pay", "take"]) (r := kd % 2) (by omega) (by show kd % 2 < 2; omega)
    have hz : z = "pay" ∨ z = "take" := by
      rcases List.mem_cons.mp mz with h | h
      · exact .inl h
      · exact .inr (List.mem_singleton.mp h)
    refine ⟨U0, _, kd % 2, _, rfl, rfl, SqT.of upd_same, az, ?_⟩
    refine ⟨_, rfl, _, rfl, _, rfl, p, c, pn, pp, ns, ps, 12, b, rfl, by decide, by decide, L4.P, L4.n1, L4.n2, L4.n, L4.o, L4.ln, L4.lo, fun v e H5 b5' ev ed ew es b5 P5 k5 m5 => ⟨by show 2 ≤ sizeLine; decide, fun U hU => ?_⟩⟩
    have sU := same_upd (o := .tup [V.str z, v]) hU
    have L5 := (L4.pl b5 P5).same sU
    refine k _ (.pay z e) _ b5' a (.pay (.inl upd_same) (ev.keep (keepT_of sU)).toK) ⟨hz, ⟨ew, by omega, es⟩, rfl⟩ (Nat.zero_le _) ?_ L5 ⟨?_, m5⟩
    · exact (but2_l b1).trans ((but2_s s0).trans (but2_l (b5.trans (but_of sU))))
    · unfold Cost at k5
      show e.words.length + 1 + _ ≤ _
      omega
/-! ### _law_block -/
theorem step_law_block (T : Txt K mg w) {n : Nat} (G : FnOk P w K mg base CX0 (15 + 2 * n) T.a_law_block T.d_law_block ["pool", "names", "picks", "deep", "state"] (sp_law_block T n)) : FnOk P w K mg base CX0 (15 + 2 * n + 2) T.a_law_block T.d_law_block ["pool", "names", "picks", "deep", "state"] (sp_law_block T (n + 1)) := by
  refine T.F_law_block.ok sc_law_block (fun vs H Q E h => ?_) (fun cdv A outer s H vs Q E hr h => ?_)
  · obtain ⟨p, c, pn, pp, q, ns, ps, deep, di, b, a, rfl, _⟩ := h
    rfl
  obtain ⟨p, c, pn, pp, q, ns, ps, deep, di, b, a, rfl, rfl, d1, n10, L, k⟩ := h
  refine ⟨_, (pss_cons (ps_set (i := 5) sc_law_block.nd rfl (by first | exact Or.inl rfl | exact Or.inr rfl) (pe_lst pa_nil))
      (pss_cons (ps_for PassesOwn.never rfl (pi_range1 (by rfl) T.z_range (pa_cons (pe_call (ok_law_few T) (hr.mono (by omega)) (by rfl) T.m_law_few T.F_law_few.kp T.b_law_few .nil pass0 (pa_cons (pv 0) (pa_cons pe_int pa_nil))) pa_nil)) (pg_name (i := 6) sc_law_block.nd rfl (by first | exact Or.inl rfl | exact Or.inr rfl)) (pss_one (ps_if (pt_truth (pe_call (ok_law_spend T) (hr.mono (by omega)) (by rfl) T.m_law_spend T.F_law_spend.kp T.b_law_spend .nil pass0 (pa_cons (pv 0) pa_nil)) (fun _ => rfl)) (pss_one (ps_expr (pe_bm PySem.F.plainAttrs_list PySem.F.slot_list_append PySem.F.type_list_append mt_append (pv 5) (pa_cons (pe_call (ok_law_statement T G) (hr.mono (by omega)) (by rfl) T.m_law_statement T.F_law_statement.kp T.b_law_statement .nil pass0 (pa_cons (pv 0) (pa_cons (pv 1) (pa_cons (pv 2) (pa_cons (pv 3) (pa_cons (pv 4) pa_nil)))))) pa_nil)))) pss_nil)))
      (pss_one (ps_ret (pe_callTy call_tuple_of (by rfl) T.z_tuple (by first | exact PySem.boot_tuple | decide +kernel) (pa_cons (pv 5) pa_nil)))))), ?_⟩
  refine ⟨by show 0 ≤ sizeLine; decide, fun W hW => ?_⟩
  have sW := same_upd (o := .lst []) hW
  have L0 := L.same sW
  have nWp := L.P.ne hW
  have nWc := L.P.ne2 hW
  have nWq : W ≠ q := (ne_of_none L.s hW).symm
  have eW : upd H W (.lst []) W = some (.lst []) := upd_same
  revert sW L0 eW
  generalize upd H W (.lst []) = H0
  intro sW L0 eW
  refine ⟨_, rfl, p, c, 6, b, rfl, by decide, by decide, L0.P, fun m H1 m0 m1 b1 P1 => ?_⟩
  refine ⟨m, rfl, by omega, by omega, for_range (fun i σ' H' => ∃ (vs : List V) (ss : List St) (b' : Int) (a' : Nat × Nat) (y : Option V), σ' = [some (.ref p), some (.ref pn), some (.ref pp), some (.int ((deep : Nat) : Int)), some (.ref q), some (.ref W), y] ∧ H' W = some (.lst vs) ∧ Bv K H' vs ss ∧ GL ns ps ss a a' ∧ lvL ss ≤ deep ∧ But2 p q H H' ∧ LGv H' p c pn pp q ns ps b' a' ∧ Cost4 (blockW ss).length b b' 0 ∧ ss.length ≤ i) ⟨[], [], b, a, _, rfl, b1 _ _ nWp eW, .nil, rfl, Nat.zero_le _, (but2_s sW).trans (but2_l b1), L0.pl b1 P1, ⟨Nat.le_of_eq (Nat.zero_add _), Nat.le_refl _⟩, Nat.le_refl _⟩ ?_ ?_⟩
  · rintro i σ2 H2 hi ⟨vs, ss, b2, a2, y, rfl, e2, bv, g, l, k2, L2, ⟨c2, m2⟩, le⟩
    refine ⟨_, rfl, p, c, b2, rfl, L2.P, fun kk H3 hk b3 P3 => ⟨_, rfl, ite2 (fun ck => ?_) (fun _ => ?_)⟩⟩
    · have bpos := hk.mp ck
      have L3 := L2.pl b3 P3
      refine ⟨_, rfl, .inl ⟨rfl, _, SqL.of (b3 _ _ nWp e2)⟩, _, rfl, _, rfl, _, rfl, _, rfl, _, rfl, p, c, pn, pp, q, ns, ps, deep, b2 - 1, a2, rfl, by omega, by omega, L3, fun v s1 H4 b4' a4 sv sg sl k4 L4 cc4 => ?_⟩
      have e4 := k4 _ _ nWp nWq (b3 _ _ nWp e2)
      have lv := bv.len
      refine ⟨W, _, _, rfl, rfl, e4, small1000 (by omega), ?_⟩
      have kT := (L2.kT (but2_l b3)).trans (L3.kT k4)
      have kW := keepT_lst (ys := vs ++ [v]) e4
      have bW : But W H4 (upd H4 W (.lst (vs ++ [v]))) := but_upd
      have eW : upd H4 W (.lst (vs ++ [v])) W = some (.lst (vs ++ [v])) := upd_same
      refine ⟨vs ++ [v], ss ++ [s1], b4', a4, _, rfl, eW, ((bv.keep kT).keep kW).app (.one (sv.keep kW)), GL_snoc g sg, ?_, fun c o n1 n2 e => ?_, ⟨L4.P.upd nWp nWc _, L4.n1, L4.n2, ?_, ?_, L4.ln, L4.lo, L4.qc, ?_⟩, ⟨?_, ?_⟩, ?_⟩
      · rw [lvL_app]
        show max (lvL ss) (max s1.lv 0) ≤ deep
        omega
      · rw [upd_ne (ne_of_none e hW)]
        exact k4 _ _ n1 n2 (b3 _ _ n1 (k2 _ _ n1 n2 e))
      · rw [upd_ne (ne_of_none L.n hW)]
        exact L4.n
      · rw [upd_ne (ne_of_none L.o hW)]
        exact L4.o
      · unfold Ct
        rw [upd_ne nWq.symm]
        exact L4.s
      · obtain ⟨c4a, c4b⟩ := cc4
        rw [blockW_app, List.length_append]
        show (blockW ss).length + (s1.words ++ []).length + _ ≤ _
        rw [List.append_nil]
        omega
      · have := cc4.2
        omega
      · rw [List.length_append]
        show ss.length + 1 ≤ i + 1
        omega
    · refine ⟨vs, ss, b2 - 1, a2, _, rfl, b3 _ _ nWp e2, bv.keep (L2.kT (but2_l b3)), g, l, k2.trans (but2_l b3), L2.pl b3 P3, ⟨by omega, by omega⟩, by omega⟩
  · rintro σ2 H2 ⟨vs, ss, b2, a2, y, rfl, e2, bv, g, l, k2, L2, cc, le⟩
    exact ⟨_, rfl, W, vs, rfl, .inl ⟨SqL.of e2, fun r fr => k r vs ss _ b2 a2 upd_same (bv.keep (keepT_of (same_upd fr))) g l (k2.trans (but2_s (same_upd fr))) (L2.same (same_upd fr)) cc⟩⟩
theorem ok_law_block (T : Txt K mg w) : ∀ n, FnOk P w K mg base CX0 (15 + 2 * n) T.a_law_block T.d_law_block ["pool", "names", "picks", "deep", "state"] (sp_law_block T n)
  | 0 => ⟨fun vs H Q E h => absurd h (no_law_block T vs H Q E), fun A outer s H args us vs Q E _ _ _ _ h => absurd h (no_law_block T vs H Q E)⟩
  | n + 1 => step_law_block T (ok_law_block T n)
/-! ### _law_game -/
/-- a game's data, at times with a number behind -/
def GameT (K : PySem.W.Frag) (H : Hp) (a : Addr) (os : List (Str × Bool)) (us : List (Str × Int)) (rs : List (Str × List St)) (rest : List V) : Prop := rest.length ≤ 1 ∧ ∃ o u r ov uv rv, H a = some (.tup (.ref o :: .ref u :: .ref r :: rest)) ∧ H o = some (.tup ov) ∧ Paired (OptV H) ov os ∧ H u = some (.tup uv) ∧ Paired (VarV H) uv us ∧ H r = some (.tup rv) ∧ Paired (RndV K H) rv rs
theorem GameT.keep {K : PySem.W.Frag} {H H' : Hp} (k : KeepT H H') {a : Addr} {os : List (Str × Bool)} {us : List (Str × Int)} {rs : List (Str × List St)} {rest : List V} (h : GameT K H a os us rs rest) : GameT K H' a os us rs rest := by
  obtain ⟨l, o, u, r, ov, uv, rv, e, e1, p1, e2, p2, e3, p3⟩ := h
  exact ⟨l, o, u, r, ov, uv, rv, k _ _ e, k _ _ e1, L2.Paired.mapP p1 fun _ _ y => y.keep k, k _ _ e2, L2.Paired.mapP p2 fun _ _ y => y.keep k, k _ _ e3, L2.Paired.mapP p3 fun _ _ y => y.keep k⟩
/-- what the law's generator promises of data -/
structure G4Ok (os : List (Str × Bool)) (us : List (Str × Int)) (rs : List (Str × List St)) (m : Nat) : Prop where
  ok : GOk os us rs
  t : ∃ d, GRt (us.map (·.1)) (os.map (·.1)) rs (0, 0) (d, m)
  lo : os.length ≤ 3
  lu : us.length ≤ 4
  lr : rs.length ≤ 3
  w : (gameW os us rs).length ≤ 300
theorem fl_len3 {α : Type} (f : α → List Str) (h : ∀ x, (f x).length = 3) : ∀ xs : List α, (fl f xs).length = 3 * xs.length
  | [] => rfl
  | x :: xs => by
    rw [fl_cons, List.length_append, h, fl_len3 f h xs, List.length_cons]
    omega
theorem take_snoc_map {α β : Type} {f : α → β} {xs : List α} {ns : List β} {i : Nat} {x : α} {y : β} (h : xs.map f = ns.take i) (e : ns[i]? = some y) (hx : f x = y) : (xs ++ [x]).map f = ns.take (i + 1) := by
  rw [List.map_append, h, List.take_add_one, e, ← hx]
  rfl
theorem new_snoc {ps : List Str} {x : Str} (h : NewL [] ps) (n : Nm x) (f : x ∉ ps) : NewL [] (ps ++ [x]) := by
  obtain ⟨h1, h2, h3⟩ := h
  refine ⟨fun y m => ?_, ?_, fun _ _ z => by cases z⟩
  · rcases List.mem_append.mp m with m | m
    · exact h1 y m
    · rw [List.mem_singleton.mp m]; exact n
  · rw [List.nodup_append]
    refine ⟨h2, List.nodup_cons.mpr ⟨by simp, List.nodup_nil⟩, fun a ma b mb z => ?_⟩
    rw [List.mem_singleton.mp mb] at z
    exact f (z ▸ ma)
theorem new0 : NewL [] ([] : List Str) := ⟨fun _ m => (by cases m), List.nodup_nil, fun _ m => (by cases m)⟩
def sp_law_game (T : Txt K mg w) : Sp := fun vs H Q _ => ∃ (p c pn : Addr) (b : Int) (nn : List Str), vs = [.ref p, .ref pn] ∧ Pool H p c b ∧ b ≤ 40 ∧ pn ≠ p ∧ H pn = some (.lst (nn.map V.str)) ∧ nn.length ≤ 12 ∧
  ∀ (a : Addr) (os : List (Str × Bool)) (us : List (Str × Int)) (rs : List (Str × List St)) (m : Nat) (H' : Hp) (b' : Int), But p H H' → Pool H' p c b' → GameT K H' a os us rs [.int ((m : Nat) : Int)] → G4Ok os us rs m → Q (.ref a) H'

theorem ok_law_game (T : Txt K mg w) : FnOk P w K mg base CX0 36 T.a_law_game T.d_law_game ["pool", "names"] (sp_law_game T) := by
  refine T.F_law_game.ok sc_law_game (fun vs H Q E h => ?_) (fun cdv A outer s H vs Q E hr h => ?_)
  · obtain ⟨p, c, pn, b, nn, rfl, _⟩ := h
    rfl
  obtain ⟨p, c, pn, b, nn, rfl, hP, hb, npn, hn, ln, q⟩ := h
  refine ⟨_, (pss_cons (ps_set (i := 2) sc_law_game.nd rfl (by first | exact Or.inl rfl | exact Or.inr rfl) (pe_lst pa_nil))
      (pss_cons (ps_for PassesOwn.never rfl (pi_range1 (by rfl) T.z_range (pa_cons (pe_call (ok_law_few T) (hr.mono (by decide)) (by rfl) T.m_law_few T.F_law_few.kp T.b_law_few .nil pass0 (pa_cons (pv 0) (pa_cons pe_int pa_nil))) pa_nil)) (pg_name (i := 3) sc_law_game.nd rfl (by first | exact Or.inl rfl | exact Or.inr rfl)) (pss_one (ps_expr (pe_bm PySem.F.plainAttrs_list PySem.F.slot_list_append PySem.F.type_list_append mt_append (pv 2) (pa_cons (pe_call (ok_law_name T) (hr.mono (by decide)) (by rfl) T.m_law_name T.F_law_name.kp T.b_law_name .nil pass0 (pa_cons (pv 0) (pa_cons (pe_op op_cat (pv 2) (pv 1)) pa_nil))) pa_nil)))))
      (pss_cons (ps_set (i := 4) sc_law_game.nd rfl (by first | exact Or.inl rfl | exact Or.inr rfl) (pe_lst pa_nil))
      (pss_cons (ps_for PassesOwn.never rfl (pi_range1 (by rfl) T.z_range (pa_cons (pe_call (ok_law_few T) (hr.mono (by decide)) (by rfl) T.m_law_few T.F_law_few.kp T.b_law_few .nil pass0 (pa_cons (pv 0) (pa_cons pe_int pa_nil))) pa_nil)) (pg_name (i := 3) sc_law_game.nd rfl (by first | exact Or.inl rfl | exact Or.inr rfl)) (pss_one (ps_expr (pe_bm PySem.F.plainAttrs_list PySem.F.slot_list_append PySem.F.type_list_append mt_append (pv 4) (pa_cons (pe_call (ok_law_name T) (hr.mono (by decide)) (by rfl) T.m_law_name T.F_law_name.kp T.b_law_name .nil pass0 (pa_cons (pv 0) (pa_cons (pe_op op_cat (pv 4) (pv 1)) pa_nil))) pa_nil)))))
      (pss_cons (ps_set (i := 5) sc_law_game.nd rfl (by first | exact Or.inl rfl | exact Or.inr rfl) (pe_lst pa_nil))
      (pss_cons (ps_set (i := 6) sc_law_game.nd rfl (by first | exact Or.inl rfl | exact Or.inr rfl) (pe_lst pa_nil))
      (pss_cons (ps_set (i := 7) sc_law_game.nd rfl (by first | exact Or.inl rfl | exact Or.inr rfl) (pe_lst (pa_cons pe_int (pa_cons pe_int pa_nil))))
      (pss_cons (ps_for PassesOwn.never rfl (pi_range1 (by rfl) T.z_range (pa_cons (pe_call (ok_law_few T) (hr.mono (by decide)) (by rfl) T.m_law_few T.F_law_few.kp T.b_law_few .nil pass0 (pa_cons (pv 0) (pa_cons pe_int pa_nil))) pa_nil)) (pg_name (i := 3) sc_law_game.nd rfl (by first | exact Or.inl rfl | exact Or.inr rfl)) (pss_cons (ps_expr (pe_bm PySem.F.plainAttrs_list PySem.F.slot_list_append PySem.F.type_list_append mt_append (pv 6) (pa_cons (pe_call (ok_law_name T) (hr.mono (by decide)) (by rfl) T.m_law_name T.F_law_name.kp T.b_law_name .nil pass0 (pa_cons (pv 0) (pa_cons (pe_op op_cat (pv 6) (pv 1)) pa_nil))) pa_nil)))
      (pss_one (ps_expr (pe_bm PySem.F.plainAttrs_list PySem.F.slot_list_append PySem.F.type_list_append mt_append (pv 5) (pa_cons (pe_tup (pa_cons (pe_ix ix_list (pv 6) (pv 3) (fun _ _ => rfl)) (pa_cons (pe_call (ok_law_block T 10) (hr.mono (by decide)) (by rfl) T.m_law_block T.F_law_block.kp T.b_law_block .nil pass0 (pa_cons (pv 0) (pa_cons (pv 4) (pa_cons (pv 2) (pa_cons pe_int (pa_cons (pv 7) pa_nil)))))) pa_nil))) pa_nil))))))
      (pss_cons (ps_set (i := 8) sc_law_game.nd rfl (by first | exact Or.inl rfl | exact Or.inr rfl) (pe_callTy call_tuple_of (by rfl) T.z_tuple (by first | exact PySem.boot_tuple | decide +kernel) (pa_cons (pe_lc (own := [("name", 9)]) (g := gName 9) (tt := tYes) rfl sc_law_game.nd (pi_list (pv 2)) (blkOk_by (N := N_law_game) (sc := defScope s_law_game) (by decide +kernel)) (fun _ _ _ _ _ => (pg_name (i := 9) sc_law_game.nd rfl (by first | exact Or.inl rfl | exact Or.inr rfl))) (fun _ _ _ _ _ => pts_nil) (fun _ _ _ _ _ => (pe_tup (pa_cons (pv 9) (pa_cons (pe_cmpR op_eq (pe_call (ok_law_draw T) (hr.mono (by decide)) (by rfl) T.m_law_draw T.F_law_draw.kp T.b_law_draw .nil pass0 (pa_cons (pv 0) (pa_cons pe_int pa_nil))) pe_int (nomark _)) pa_nil))))) pa_nil)))
      (pss_one (ps_ret (pe_tup (pa_cons (pv 8) (pa_cons (pe_callTy call_tuple_of (by rfl) T.z_tuple (by first | exact PySem.boot_tuple | decide +kernel) (pa_cons (pe_lc (own := [("name", 9)]) (g := gName 9) (tt := tYes) rfl sc_law_game.nd (pi_list (pv 4)) (blkOk_by (N := N_law_game) (sc := defScope s_law_game) (by decide +kernel)) (fun _ _ _ _ _ => (pg_name (i := 9) sc_law_game.nd rfl (by first | exact Or.inl rfl | exact Or.inr rfl))) (fun _ _ _ _ _ => pts_nil) (fun _ _ _ _ _ => (pe_tup (pa_cons (pv 9) (pa_cons (pe_op op_add pe_int (pe_op op_mod (pe_callTy call_int1 (by rfl) T.z_int (by first | exact PySem.boot_int | decide +kernel) (pa_cons (pe_call (ok_law_number T) (hr.mono (by decide)) (by rfl) T.m_law_number T.F_law_number.kp T.b_law_number .nil pass0 (pa_cons (pv 0) pa_nil)) pa_nil)) pe_int)) pa_nil))))) pa_nil)) (pa_cons (pe_callTy call_tuple_of (by rfl) T.z_tuple (by first | exact PySem.boot_tuple | decide +kernel) (pa_cons (pv 5) pa_nil)) (pa_cons (pe_ix ix_list (pv 7) pe_int (fun _ _ => rfl)) pa_nil)))))))))))))))), ?_⟩
  -- the options' names
  refine ⟨by show 0 ≤ sizeLine; decide, fun A1 fA1 => ?_⟩
  have sA1 := same_upd (o := .lst []) fA1
  have nA1 := hP.ne fA1
  have cA1 := hP.ne2 fA1
  refine ⟨_, rfl, p, c, 3, b, rfl, by decide, by decide, hP.same sA1, fun m1 H1 a0 a1 b1 P1 => ?_⟩
  have eA1 := b1 _ _ nA1 (upd_same (H := H) (a := A1) (o := .lst []))
  have hn1 := b1 _ _ npn (sA1 _ _ hn)
  have b01 : But p H H1 := (but_of sA1).trans b1
  refine ⟨m1, rfl, by omega, by omega, for_range (fun i σ' H' => ∃ (ps : List Str) (y : Option V), σ' = [some (.ref p), some (.ref pn), some (.ref A1), y, none, none, none, none, none, none] ∧ But p H H' ∧ Pool H' p c b ∧ H' A1 = some (.lst (ps.map V.str)) ∧ H' pn = some (.lst (nn.map V.str)) ∧ NewL [] ps ∧ ps.length = i) ⟨[], _, rfl, b01, P1, eA1, hn1, new0, rfl⟩ ?_ ?_⟩
  · rintro i σ2 H2 hi ⟨ps, y, rfl, b2, P2, e2, h2, nw, lp⟩
    refine ⟨_, rfl, .inl ⟨rfl, _, SqL.of e2⟩, _, rfl, _, rfl, _, rfl, A1, pn, _, _, rfl, rfl, e2, h2, small_le (by rw [List.length_map, List.length_map]; omega), fun Z fZ => ?_⟩
    have sZ := same_upd (o := .lst (ps.map V.str ++ nn.map V.str)) fZ
    refine ⟨p, c, Z, ps ++ nn, b, rfl, P2.same sZ, P2.ne fZ, by rw [upd_same, List.map_append], by rw [List.length_append]; omega, fun x H3 nx fx b3 P3 => ?_⟩
    have e3 := b3 _ _ nA1 (sZ _ _ e2)
    refine ⟨A1, _, _, rfl, rfl, e3, small1000 (by rw [List.length_map]; omega), ps ++ [x], _, rfl, fun d o nd eo => ?_, P3.upd nA1 cA1 _, ?_, ?_, new_snoc nw nx (fun m => fx (List.mem_append_left _ m)), by rw [List.length_append, lp]; rfl⟩
    · rw [upd_ne (ne_of_none eo fA1)]
      exact b3 _ _ nd (sZ _ _ (b2 _ _ nd eo))
    · rw [upd_same, List.map_append]
      rfl
    · rw [upd_ne (ne_of_none hn fA1)]
      exact b3 _ _ npn (sZ _ _ h2)
  rintro σ2 H2 ⟨ps, y1, rfl, b2, P2, ep2, hn2, wps, lps⟩
  clear b1 P1 eA1 hn1 b01
  -- the variables' names
  refine ⟨by show 0 ≤ sizeLine; decide, fun A2 fA2 => ?_⟩
  have sA2 := same_upd (o := .lst []) fA2
  have nA2 := P2.ne fA2
  have cA2 := P2.ne2 fA2
  refine ⟨_, rfl, p, c, 4, b, rfl, by decide, by decide, P2.same sA2, fun m2 H3 a0' a1' b3 P3 => ?_⟩
  refine ⟨m2, rfl, by omega, by omega, for_range (fun i σ' H' => ∃ (ns : List Str) (y : Option V), σ' = [some (.ref p), some (.ref pn), some (.ref A1), y, some (.ref A2), none, none, none, none, none] ∧ But p H2 H' ∧ Pool H' p c b ∧ H' A2 = some (.lst (ns.map V.str)) ∧ NewL [] ns ∧ ns.length = i) ⟨[], _, rfl, (but_of sA2).trans b3, P3, b3 _ _ nA2 upd_same, new0, rfl⟩ ?_ ?_⟩
  · rintro i σ4 H4 hi ⟨ns, y, rfl, b4, P4, e4, nw, lp⟩
    have h4 := b4 _ _ npn hn2
    refine ⟨_, rfl, .inl ⟨rfl, _, SqL.of e4⟩, _, rfl, _, rfl, _, rfl, A2, pn, _, _, rfl, rfl, e4, h4, small_le (by rw [List.length_map, List.length_map]; omega), fun Z fZ => ?_⟩
    have sZ := same_upd (o := .lst (ns.map V.str ++ nn.map V.str)) fZ
    refine ⟨p, c, Z, ns ++ nn, b, rfl, P4.same sZ, P4.ne fZ, by rw [upd_same, List.map_append], by rw [List.length_append]; omega, fun x H5 nx fx b5 P5 => ?_⟩
    have e5 := b5 _ _ nA2 (sZ _ _ e4)
    refine ⟨A2, _, _, rfl, rfl, e5, small1000 (by rw [List.length_map]; omega), ns ++ [x], _, rfl, fun d o nd eo => ?_, P5.upd nA2 cA2 _, ?_, new_snoc nw nx (fun m => fx (List.mem_append_left _ m)), by rw [List.length_append, lp]; rfl⟩
    · rw [upd_ne (ne_of_none eo fA2)]
      exact b5 _ _ nd (sZ _ _ (b4 _ _ nd eo))
    · rw [upd_same, List.map_append]
      rfl
  rintro σ4 H4 ⟨ns, y2, rfl, b4, P4, en4, wns, lns⟩
  clear b3 P3
  have ep4 := b4 _ _ nA1 ep2
  have hn4 := b4 _ _ npn hn2
  have b04 := b2.trans b4
  -- the rounds
  refine ⟨by show 0 ≤ sizeLine; decide, fun R fR => ?_⟩
  have sR := same_upd (o := .lst []) fR
  refine ⟨by show 0 ≤ sizeLine; decide, fun Tt fT => ?_⟩
  have sT := same_upd (o := .lst []) fT
  refine ⟨by show 2 ≤ sizeLine; decide, fun S fS => ?_⟩
  have sS := same_upd (o := .lst [V.int 0, .int 0]) fS
  have nRp := P4.ne fR
  have nRc := P4.ne2 fR
  have PR := P4.same sR
  have nTp := PR.ne fT
  have nTc := PR.ne2 fT
  have PT := PR.same sT
  have nSp := PT.ne fS
  have nSc := PT.ne2 fS
  have PS5 := PT.same sS
  have nRT : R ≠ Tt := ne_of_none (upd_same (H := H4) (a := R) (o := .lst [])) fT
  have nRS : R ≠ S := ne_of_none (sT _ _ (upd_same (H := H4) (a := R) (o := .lst []))) fS
  have nTS : Tt ≠ S := ne_of_none (upd_same (H := upd H4 R (.lst [])) (a := Tt) (o := .lst [])) fS
  have s45 := (sR.trans sT).trans sS
  have eR5 := sS _ _ (sT _ _ (upd_same (H := H4) (a := R) (o := .lst [])))
  have eT5 := sS _ _ (upd_same (H := upd H4 R (.lst [])) (a := Tt) (o := .lst []))
  have eS5 := upd_same (H := upd (upd H4 R (.lst [])) Tt (.lst [])) (a := S) (o := .lst [V.int 0, .int 0])
  have fR4 : H4 R = none := fR
  have fT4 : H4 Tt = none := none_back sR fT
  have fS4 : H4 S = none := none_back (sR.trans sT) fS
  revert PS5 s45 eR5 eT5 eS5
  generalize upd (upd (upd H4 R (.lst [])) Tt (.lst [])) S (.lst [V.int 0, .int 0]) = H5
  intro PS5 s45 eR5 eT5 eS5
  clear sR sT sS fR fT fS PR PT
  refine ⟨_, rfl, p, c, 3, b, rfl, by decide, by decide, PS5, fun m3 H6 c0 c1 b6 P6 => ?_⟩
  -- what stood before stays
  have fr6 : ∀ d o, d ≠ p → H4 d = some o → H6 d = some o := fun d o nd e => b6 _ _ nd (s45 _ _ e)
  have L6 : LGv H6 p c A2 A1 S ns ps b (0, 0) := ⟨P6, nA2, nA1, fr6 _ _ nA2 en4, fr6 _ _ nA1 ep4, by omega, by omega, nSc, b6 _ _ nSp eS5⟩
  refine ⟨m3, rfl, by omega, by omega, for_range (fun i σ' H' => ∃ (rv : List V) (rs : List (Str × List St)) (qs : List Str) (a : Nat × Nat) (b' : Int) (y : Option V), σ' = [some (.ref p), some (.ref pn), some (.ref A1), y, some (.ref A2), some (.ref R), some (.ref Tt), some (.ref S), none, none] ∧ (∀ d o, d ≠ p → H4 d = some o → H' d = some o) ∧ LGv H' p c A2 A1 S ns ps b' a ∧ H' R = some (.lst rv) ∧ H' Tt = some (.lst (qs.map V.str)) ∧ Paired (RndV K H') rv rs ∧ rs.map (·.1) = qs ∧ NewL [] qs ∧ qs.length = i ∧ GRt ns ps rs (0, 0) a ∧ (fl rndW rs).length + 4 * b'.toNat ≤ 4 * b.toNat + 3 * i)
    ⟨[], [], [], (0, 0), b, _, rfl, fr6, L6, b6 _ _ nRp eR5, b6 _ _ nTp eT5, .nil, rfl, new0, rfl, rfl, by show 0 + _ ≤ _; omega⟩ ?_ ?_⟩
  · rintro i σ7 H7 hi ⟨rv, rs, qs, a, b', y, rfl, f7, L7, e7, t7, pv7, hm7, nw7, lq7, g7, c7⟩
    have h7 := f7 _ _ npn hn4
    have nPnT : pn ≠ Tt := ne_of_none hn4 fT4
    have nPnR : pn ≠ R := ne_of_none hn4 fR4
    refine ⟨_, rfl, .inl ⟨rfl, _, SqL.of t7⟩, _, rfl, _, rfl, _, rfl, Tt, pn, _, _, rfl, rfl, t7, h7, small_le (by rw [List.length_map, List.length_map]; omega), fun Z fZ => ?_⟩
    have sZ := same_upd (o := .lst (qs.map V.str ++ nn.map V.str)) fZ
    refine ⟨p, c, Z, qs ++ nn, b', rfl, L7.P.same sZ, L7.P.ne fZ, by rw [upd_same, List.map_append], by rw [List.length_append]; omega, fun x H8 nx fx b8 P8 => ?_⟩
    have t8 := b8 _ _ nTp (sZ _ _ t7)
    have L8 : LGv H8 p c A2 A1 S ns ps b' a := (L7.same sZ).pl b8 P8
    have k78 : KeepT H7 H8 := (keepT_of sZ).trans ((L7.P.same sZ).keepT b8)
    refine ⟨Tt, _, _, rfl, rfl, t8, small1000 (by rw [List.length_map]; omega), ?_⟩
    have kT := keepT_lst (ys := qs.map V.str ++ [V.str x]) t8
    have t9 : upd H8 Tt (.lst (qs.map V.str ++ [V.str x])) Tt = some (.lst ((qs ++ [x]).map V.str)) := by
      rw [upd_same, List.map_append]
      rfl
    have bT : But Tt H8 (upd H8 Tt (.lst (qs.map V.str ++ [V.str x]))) := but_upd
    have L9 : LGv (upd H8 Tt (.lst (qs.map V.str ++ [V.str x]))) p c A2 A1 S ns ps b' a := ⟨P8.upd nTp nTc _, nA2, nA1, bT _ _ (ne_of_none en4 fT4) L8.n, bT _ _ (ne_of_none ep4 fT4) L8.o, L8.ln, L8.lo, nSc, bT _ _ nTS.symm L8.s⟩
    have e9 := bT _ _ nRT (b8 _ _ nRp (sZ _ _ e7))
    revert t9 L9 e9 bT kT
    generalize upd H8 Tt (.lst (qs.map V.str ++ [V.str x])) = H9
    intro kT t9 bT L9 e9
    refine ⟨_, rfl, .inl ⟨rfl, _, SqL.of e9⟩, _, rfl, _, rfl, Tt, _, _, .str x, rfl, rfl, SqL.of t9, ?_, ?_⟩
    · rw [Int.zero_add]
      refine atI_nat (j := i) ?_
      rw [List.getElem?_map, List.getElem?_append_right (by omega), lq7, Nat.sub_self]
      rfl
    refine ⟨_, rfl, _, rfl, _, rfl, _, rfl, p, c, A2, A1, S, ns, ps, 8, _, b', a, rfl, rfl, by decide, by decide, L9, fun r vs ss HA b7' a7 er7 bv7 g8 l8 kA LA ccA => ⟨by show 2 ≤ sizeLine; decide, fun U hU => ?_⟩⟩
    have sU := same_upd (o := .tup [V.str x, .ref r]) hU
    have eA := kA _ _ nRp nRS e9
    have eU := sU _ _ eA
    have tU := sU _ _ (kA _ _ nTp nTS t9)
    have lv := (paired_len pv7).trans ((by rw [← hm7, List.length_map] : rs.length = qs.length).trans lq7)
    have nU : U ≠ R := (ne_of_none eA hU).symm
    have kW := keepT_lst (ys := rv ++ [.ref U]) eU
    have kU := (keepT_of sU).trans kW
    have k9 := (k78.trans kT).trans ((L9.kT kA).trans kU)
    refine ⟨R, _, _, rfl, rfl, eU, small1000 (by omega), rv ++ [.ref U], rs ++ [(x, ss)], qs ++ [x], a7, b7', _, rfl, fun d o nd e => ?_, ⟨(LA.P.same sU).upd nRp nRc _, nA2, nA1, ?_, ?_, LA.ln, LA.lo, nSc, ?_⟩, upd_same, ?_, ?_, ?_, new_snoc nw7 nx (fun m => fx (List.mem_append_left _ m)), by rw [List.length_append, lq7]; rfl, g7.snoc g8 l8, ?_⟩
    · rw [upd_ne (ne_of_none e fR4)]
      exact sU _ _ (kA _ _ nd (ne_of_none e fS4) (bT _ _ (ne_of_none e fT4) (b8 _ _ nd (sZ _ _ (f7 _ _ nd e)))))
    · rw [upd_ne (ne_of_none en4 fR4)]
      exact sU _ _ LA.n
    · rw [upd_ne (ne_of_none ep4 fR4)]
      exact sU _ _ LA.o
    · unfold Ct
      rw [upd_ne nRS.symm]
      exact sU _ _ LA.s
    · rw [upd_ne nRT.symm]
      exact tU
    · exact paired_snocC (L2.Paired.mapP pv7 fun _ _ y => y.keep k9) ⟨U, r, vs, rfl, by rw [upd_ne nU]; exact upd_same, kU _ _ er7, bv7.keep kU⟩
    · rw [List.map_append, hm7]
      rfl
    · obtain ⟨c7a, c7b⟩ := ccA
      have hf : fl rndW [(x, ss)] = rndW (x, ss) := by rw [fl_cons]; exact List.append_nil _
      have hl : (rndW (x, ss)).length = (blockW ss ++ (["end"] : List Str)).length + 1 + 1 := rfl
      rw [fl_app, List.length_append, hf, hl, List.length_append]
      have : (["end"] : List Str).length = 1 := rfl
      omega
  rintro σ7 H7 ⟨rv, rs, qs, a, b', y3, rfl, f7, L7, e7, t7, pv7, hm7, nw7, lq7, g7, c7⟩
  have lrs : rs.length = qs.length := by rw [← hm7, List.length_map]
  have P7 := L7.P
  have epp7 := L7.o
  have enn7 := L7.n
  have es7 : H7 S = some (.lst [.int ((a.2 : Nat) : Int), .int ((a.1 + a.2 : Nat) : Int)]) := L7.s
  have b07 : But p H H7 := fun d o nd e => f7 _ _ nd (b04 _ _ nd e)
  clear L6 P6 b6 s45 PS5 eR5 eT5 eS5 fr6 t7 P4 P2 b4 b2 b04 fR4 fT4 fS4 hn2 hn4 ep2 ep4 en4 f7 sA1 sA2 fA1 fA2 L7
  -- options
  refine ⟨_, rfl, A1, rfl, ⟨_, SqL.of epp7⟩, fun D hD => ?_⟩
  have sD := same_upd (o := .lst []) hD
  have nDp := P7.ne hD
  have nDc := P7.ne2 hD
  refine lc_list (a := A1) (xs := ps.map V.str) (fun i H' => (∀ d o, d ≠ p → H7 d = some o → H' d = some o) ∧ Pool H' p c b' ∧ ∃ (ov : List V) (os : List (Str × Bool)), H' D = some (.lst ov) ∧ Paired (OptV H') ov os ∧ os.map (·.1) = ps.take i) ⟨(fun d o _ e => sD _ _ e), P7.same sD, [], [], upd_same, .nil, rfl⟩ (fun i H2 _ h => SqL.of (h.1 _ _ nA1 epp7)) (fun i v H8 hv h => ?_) (fun H8 h => ?_)
  · obtain ⟨b8, P8, ov, os, e8, pv8, hm8⟩ := h
    obtain ⟨x, hx, rfl⟩ := str_of_map hv
    have il : i < ps.length := (List.getElem?_eq_some_iff.mp hx).1
    refine ⟨rfl, ?_⟩
    refine ⟨_, rfl, _, rfl, p, c, 2, b', rfl, by decide, by decide, P8, fun t H9 t0 t1 b9 P9 => ⟨rfl, by show 2 ≤ sizeLine; decide, fun U hU => ?_⟩⟩
    have sU := same_upd (o := .tup [V.str x, .bl (decide (V.int t = V.int 1))]) hU
    have e9 := sU _ _ (b9 _ _ nDp e8)
    have lv := paired_len pv8
    have lm := congrArg List.length hm8
    rw [List.length_map, List.length_take] at lm
    have nU : U ≠ D := (ne_of_none (b9 _ _ nDp e8) hU).symm
    have kW := keepT_lst (ys := ov ++ [.ref U]) e9
    have kT := ((P8.keepT b9).trans (keepT_of sU)).trans kW
    refine ⟨ov, e9, Nat.lt_of_le_of_lt (show ov.length ≤ 6 by omega) (by rw [sizeLine_eq]; decide), fun d o nd eo => ?_, (P9.same sU).upd nDp nDc _, ov ++ [.ref U], os ++ [(x, decide (V.int t = V.int 1))], upd_same, ?_, take_snoc_map hm8 hx rfl⟩
    · rw [upd_ne (ne_of_none eo hD)]
      exact sU _ _ (b9 _ _ nd (b8 _ _ nd eo))
    · exact paired_snocC (L2.Paired.mapP pv8 fun _ _ y => OptV.keep kT y) ⟨U, rfl, by rw [upd_ne nU]; exact upd_same⟩
  obtain ⟨b8, P8, ov, os, e8, pv8, hm8⟩ := h
  rw [List.length_map, List.take_length] at hm8
  have los : os.length = ps.length := by rw [← hm8, List.length_map]
  have k78 := P7.keepT b8
  refine ⟨D, _, rfl, .inl ⟨SqL.of e8, fun B1 f1 => ?_⟩⟩
  have s1 := same_upd (o := .tup ov) f1
  have b18 : ∀ d o, d ≠ p → H7 d = some o → upd H8 B1 (.tup ov) d = some o := fun d o nd e => s1 _ _ (b8 _ _ nd e)
  have P9 := P8.same s1
  have k79 := k78.trans (keepT_of s1)
  have ev9 := upd_same (H := H8) (a := B1) (o := .tup ov)
  have pv9 := L2.Paired.mapP pv8 fun _ _ y => OptV.keep (keepT_of s1) y
  revert b18 P9 k79 ev9 pv9
  generalize upd H8 B1 (.tup ov) = H9
  intro b18 P9 k79 ev9 pv9
  clear s1 f1 b8 P8 e8 pv8 k78 nDp nDc sD hD
  -- variables
  refine ⟨_, rfl, _, rfl, A2, rfl, ⟨_, SqL.of (b18 _ _ nA2 enn7)⟩, fun D2 hD2 => ?_⟩
  have sD := same_upd (o := .lst []) hD2
  have nDp := P9.ne hD2
  have nDc := P9.ne2 hD2
  refine lc_list (a := A2) (xs := ns.map V.str) (fun i H' => (∀ d o, d ≠ p → H9 d = some o → H' d = some o) ∧ Pool H' p c b' ∧ ∃ (uv : List V) (us : List (Str × Int)), H' D2 = some (.lst uv) ∧ Paired (VarV H') uv us ∧ us.map (·.1) = ns.take i ∧ ∀ z ∈ us, 1 ≤ z.2 ∧ z.2 ≤ 65535) ⟨(fun d o _ e => sD _ _ e), P9.same sD, [], [], upd_same, .nil, rfl, (fun _ m => by cases m)⟩ (fun i H2 _ h => SqL.of (h.1 _ _ nA2 (b18 _ _ nA2 enn7))) (fun i v HA hv h => ?_) (fun HA h => ?_)
  · obtain ⟨bA, PA, uv, us, eA, pvA, hmA, hzA⟩ := h
    obtain ⟨x, hx, rfl⟩ := str_of_map hv
    have il : i < ns.length := (List.getElem?_eq_some_iff.mp hx).1
    refine ⟨rfl, ?_⟩
    refine ⟨_, rfl, _, rfl, p, c, b', rfl, PA, fun m HB bm bB PB => ?_⟩
    refine .inl ⟨_, rfl, _, _, rfl, rfl, (by show (0 : Int) < 65535; decide), _, _, rfl, rfl, by show 2 ≤ sizeLine; decide, fun U hU => ?_⟩
    have sU := same_upd (o := .tup [V.str x, .int (1 + m % 65535)]) hU
    have eB := sU _ _ (bB _ _ nDp eA)
    have lv := paired_len pvA
    have lm := congrArg List.length hmA
    rw [List.length_map, List.length_take] at lm
    have nU : U ≠ D2 := (ne_of_none (bB _ _ nDp eA) hU).symm
    have kW := keepT_lst (ys := uv ++ [.ref U]) eB
    have kT := ((PA.keepT bB).trans (keepT_of sU)).trans kW
    refine ⟨uv, eB, Nat.lt_of_le_of_lt (show uv.length ≤ 6 by omega) (by rw [sizeLine_eq]; decide), fun d o nd eo => ?_, (PB.same sU).upd nDp nDc _, uv ++ [.ref U], us ++ [(x, 1 + m % 65535)], upd_same, ?_, take_snoc_map hmA hx rfl, fun z mz => ?_⟩
    · rw [upd_ne (ne_of_none eo hD2)]
      exact sU _ _ (bB _ _ nd (bA _ _ nd eo))
    · exact paired_snocC (L2.Paired.mapP pvA fun _ _ y => VarV.keep kT y) ⟨U, rfl, by rw [upd_ne nU]; exact upd_same⟩
    · rcases List.mem_append.mp mz with mz | mz
      · exact hzA z mz
      · rw [List.mem_singleton.mp mz]
        show 1 ≤ 1 + m % 65535 ∧ 1 + m % 65535 ≤ 65535
        omega
  obtain ⟨bA, PA, uv, us, eA, pvA, hmA, hzA⟩ := h
  rw [List.length_map, List.take_length] at hmA
  have lus : us.length = ns.length := by rw [← hmA, List.length_map]
  have k9A := P9.keepT bA
  have b7A : ∀ d o, d ≠ p → H7 d = some o → HA d = some o := fun d o nd e => bA _ _ nd (b18 _ _ nd e)
  refine ⟨D2, _, rfl, .inl ⟨SqL.of eA, fun B2 f2 => ?_⟩⟩
  have s2 := same_upd (o := .tup uv) f2
  refine ⟨_, rfl, R, rv, rfl, .inl ⟨SqL.of (s2 _ _ (b7A _ _ nRp e7)), fun B3 f3 => ?_⟩⟩
  have s3 := same_upd (o := .tup rv) f3
  refine ⟨_, rfl, S, _, 0, .int ((a.2 : Nat) : Int), rfl, rfl, SqL.of (s3 _ _ (s2 _ _ (b7A _ _ nSp es7))), atI_nat (j := 0) rfl, by show 4 ≤ sizeLine; decide, fun B4 f4 => ?_⟩
  have s4 := same_upd (o := .tup [V.ref B1, .ref B2, .ref B3, .int ((a.2 : Nat) : Int)]) f4
  have sA := (s2.trans s3).trans s4
  have kA := keepT_of sA
  have k9B := k9A.trans kA
  have k7B := k79.trans k9B
  refine q B4 os us rs a.2 _ b' (fun d o nd e => sA _ _ (b7A _ _ nd (b07 _ _ nd e))) (PA.same sA) ⟨Nat.le_refl 1, B1, B2, B3, ov, uv, rv, upd_same, k9B _ _ ev9, L2.Paired.mapP pv9 fun _ _ y => OptV.keep k9B y, s4 _ _ (s3 _ _ upd_same), L2.Paired.mapP pvA fun _ _ y => VarV.keep kA y, s4 _ _ upd_same, L2.Paired.mapP pv7 fun _ _ y => RndV.keep k7B y⟩ ⟨⟨by rw [hm8]; exact wps, by omega, by rw [hmA]; exact wns, by omega, hzA, by rw [hm7]; exact nw7, by omega, ?_⟩, ⟨a.1, ?_⟩, by omega, by omega, by omega, ?_⟩
  · rw [hm8, hmA]
    exact g7.toGR
  · rw [hm8, hmA]
    exact g7
  · unfold gameW
    rw [List.length_append, List.length_append, fl_len3 optW (fun _ => rfl), fl_len3 varW (fun _ => rfl)]
    omega
/-! ### _law_turned -/
def sp_law_turned (T : Txt K mg w) (n : Nat) : Sp := fun vs H Q _ => ∃ (b : Addr) (ws : List V) (ss : List St) (ns ps : List Str) (am am' : Nat × Nat), vs = [.ref b] ∧ TpK K H b ws ∧ Bv K H ws ss ∧ GL ns ps ss am am' ∧ lvL ss + 1 ≤ n ∧ n ≤ 10 ∧ szL ss ≤ 900 ∧
  ∀ (p : Addr) (pv : List V) (H' : Hp), Same H H' → H p = none → H' p = some (.tup pv) → Bv K H' pv (swpL ss) → Q (.ref p) H'
theorem no_law_turned (T : Txt K mg w) : ∀ vs H Q E, ¬ sp_law_turned T 0 vs H Q E := fun vs H Q E ⟨_, _, _, _, _, _, _, _, _, _, _, h, _⟩ => by omega
theorem gl_get {vs os : List Str} : ∀ {ss : List St} {i : Nat} {s : St} {a b : Nat × Nat}, GL vs os ss a b → ss[i]? = some s → ∃ m m', s.G vs os m m'
  | [], _, _, _, _, _, e => by simp at e
  | _ :: _, 0, _, _, _, ⟨_, h, _⟩, e => by cases e; exact ⟨_, _, h⟩
  | _ :: _, i + 1, _, _, _, ⟨_, _, h⟩, e => gl_get (i := i) h (by rw [List.getElem?_cons_succ] at e; exact e)

theorem step_law_turned (T : Txt K mg w) {n : Nat} (G : FnOk P w K mg base CX0 (0 + n) T.a_law_turned T.d_law_turned ["block"] (sp_law_turned T n)) : FnOk P w K mg base CX0 (0 + n + 1) T.a_law_turned T.d_law_turned ["block"] (sp_law_turned T (n + 1)) := by
  refine T.F_law_turned.ok sc_law_turned (fun vs H Q E h => ?_) (fun cdv A outer s0 H vs Q E hr h => ?_)
  · obtain ⟨b, ws, ss, ns, ps, am, am', rfl, _⟩ := h
    rfl
  obtain ⟨b, ws, ss, ns, ps, am, am', rfl, hb, hv, hg, ln, n10, hz, q⟩ := h
  refine ⟨_, (pss_cons (ps_set (i := 1) sc_law_turned.nd rfl (by first | exact Or.inl rfl | exact Or.inr rfl) (pe_lst pa_nil))
      (pss_cons (ps_for PassesOwn.never rfl (pi_tup (pv 0)) (pg_name (i := 2) sc_law_turned.nd rfl (by first | exact Or.inl rfl | exact Or.inr rfl)) (pss_one (ps_if (PW.pt (pw_or (pt_cmpR op_eq (pe_ix ix_tup (pv 2) pe_int (fun _ _ => rfl)) pe_str (nomark _)) (pw_or1 (pt_cmpR op_eq (pe_ix ix_tup (pv 2) pe_int (fun _ _ => rfl)) pe_str (nomark _))))) (pss_one (ps_expr (pe_bm PySem.F.plainAttrs_list PySem.F.slot_list_append PySem.F.type_list_append mt_append (pv 1) (pa_cons (pe_tup (pa_cons (pe_ix ix_tup (pv 2) pe_int (fun _ _ => rfl)) (pa_cons (pe_ix ix_tup (pv 2) pe_int (fun _ _ => rfl)) (pa_cons (pe_call G hr (by rfl) T.m_law_turned T.F_law_turned.kp T.b_law_turned .nil pass0 (pa_cons (pe_ix ix_tup (pv 2) pe_int (fun _ _ => rfl)) pa_nil)) (pa_cons (pe_call G hr (by rfl) T.m_law_turned T.F_law_turned.kp T.b_law_turned .nil pass0 (pa_cons (pe_ix ix_tup (pv 2) pe_int (fun _ _ => rfl)) pa_nil)) pa_nil))))) pa_nil)))) (pss_one (ps_if (pt_cmpR op_eq (pe_ix ix_tup (pv 2) pe_int (fun _ _ => rfl)) pe_str (nomark _)) (pss_one (ps_expr (pe_bm PySem.F.plainAttrs_list PySem.F.slot_list_append PySem.F.type_list_append mt_append (pv 1) (pa_cons (pe_tup (pa_cons pe_str (pa_cons (pe_op op_sub pe_int (pe_ix ix_tup (pv 2) pe_int (fun _ _ => rfl))) (pa_cons (pe_ix ix_tup (pv 2) pe_int (fun _ _ => rfl)) (pa_cons (pe_ix ix_tup (pv 2) pe_int (fun _ _ => rfl)) (pa_cons (pe_ix ix_tup (pv 2) pe_int (fun _ _ => rfl)) pa_nil)))))) pa_nil)))) (pss_one (ps_if (pt_cmpR op_eq (pe_ix ix_tup (pv 2) pe_int (fun _ _ => rfl)) pe_str (nomark _)) (pss_one (ps_expr (pe_bm PySem.F.plainAttrs_list PySem.F.slot_list_append PySem.F.type_list_append mt_append (pv 1) (pa_cons (pe_tup (pa_cons pe_str (pa_cons (pe_ix ix_tup (pe_tup (pa_cons pe_int (pa_cons pe_int (pa_cons pe_int pa_nil)))) (pe_ix ix_tup (pv 2) pe_int (fun _ _ => rfl)) (fun _ _ => rfl)) (pa_cons (pe_ix ix_tup (pv 2) pe_int (fun _ _ => rfl)) pa_nil)))) pa_nil)))) (pss_one (ps_if (PW.pt (pw_or (pt_cmpR op_eq (pe_ix ix_tup (pv 2) pe_int (fun _ _ => rfl)) pe_str (nomark _)) (pw_or1 (pt_cmpR op_eq (pe_ix ix_tup (pv 2) pe_int (fun _ _ => rfl)) pe_str (nomark _))))) (pss_one (ps_expr (pe_bm PySem.F.plainAttrs_list PySem.F.slot_list_append PySem.F.type_list_append mt_append (pv 1) (pa_cons (pe_tup (pa_cons (pe_ix ix_tup (pe_tup (pa_cons pe_str (pa_cons pe_str pa_nil))) (pe_callTy call_int1 (by rfl) T.z_int (by first | exact PySem.boot_int | decide +kernel) (pa_cons (pe_cmpR op_eq (pe_ix ix_tup (pv 2) pe_int (fun _ _ => rfl)) pe_str (nomark _)) pa_nil)) (fun _ _ => rfl)) (pa_cons (pe_ix ix_tup (pv 2) pe_int (fun _ _ => rfl)) pa_nil))) pa_nil)))) (pss_one (ps_expr (pe_bm PySem.F.plainAttrs_list PySem.F.slot_list_append PySem.F.type_list_append mt_append (pv 1) (pa_cons (pv 2) pa_nil)))))))))))))
      (pss_one (ps_ret (pe_callTy call_tuple_of (by rfl) T.z_tuple (by first | exact PySem.boot_tuple | decide +kernel) (pa_cons (pv 1) pa_nil)))))), ?_⟩
  have hl2 : ws.length = ss.length := Bv.len hv
  have ls := len_sz ss
  refine ⟨by show 0 ≤ sizeLine; decide, fun W fW => ?_⟩
  have sW := same_upd (o := .lst []) fW
  refine ⟨_, rfl, b, rfl, ⟨_, (hb.keep (keepT_of sW)).sq⟩, for_tup (K := K) (a := b) (xs := ws) (fun i σ' H' => ∃ (y : Option V) (pv : List V), σ' = [some (.ref b), some (.ref W), y] ∧ Same H H' ∧ H' W = some (.lst pv) ∧ Bv K H' pv (swpL (ss.take i))) ⟨_, [], rfl, sW, upd_same, by rw [List.take_zero]; exact .nil⟩ ?_ ?_ ?_⟩
  · rintro i σ' H' _ ⟨y, pv, rfl, s1, _⟩
    exact (hb.keep (keepT_of s1)).sq
  · rintro i z σ' H1 hi ⟨y, pv, rfl, s1, e1, p1⟩
    obtain ⟨s, hs, hsv⟩ := hv.get hi
    obtain ⟨gm, gm', gs⟩ := gl_get hg hs
    have l1 := lvL_get hs
    have z1 := szL_get hs
    have lp := p1.len.trans (by rw [swpL_map, List.length_map])
    have il : (ss.take i).length ≤ ss.length := by rw [List.length_take]; omega
    have tk := swpL_take  hs
    have hz2 := hsv.keep (keepT_of s1)
    -- one more at the end
    have fin : ∀ (v : V) (H2 : Hp), Same H1 H2 → Sv K H2 v (s.swp) → ∃ (y' : Option V) (pv' : List V), [some (V.ref b), some (V.ref W), some z] = [some (V.ref b), some (V.ref W), y'] ∧ Same H (upd H2 W (.lst (pv ++ [v]))) ∧ upd H2 W (.lst (pv ++ [v])) W = some (.lst pv') ∧ Bv K (upd H2 W (.lst (pv ++ [v]))) pv' (swpL (ss.take (i + 1))) := fun v H2 s2 h2 => by
      have e2 := s2 _ _ e1
      have kW := keepT_lst (ys := pv ++ [v]) e2
      refine ⟨_, pv ++ [v], rfl, same_at (s1.trans s2) fW, upd_same, ?_⟩
      rw [tk]
      exact (p1.keep ((keepT_of s2).trans kW)).app (.one (h2.keep kW))
    have sml : pv.length < sizeLine := small1000 (by omega)
    clear hsv
    cases hz2 with
    | @ite a b1 c1 v e vs ws1 t f h1 he hb1 hvs hc1 hws =>
      have hl : max (lvL t) (lvL f) + 1 ≤ lvL ss := l1
      have hz' : 1 + szL t + szL f ≤ szL ss := z1
      obtain ⟨ge, gm1, gt, gf⟩ := gs
      refine ⟨_, rfl, a, _, 0, .str "if", rfl, rfl, h1.sq, atI_nat (j := 0) rfl, rfl, _, rfl, iteS (iteT ?_)⟩
      refine ⟨_, rfl, .inl ⟨rfl, _, SqL.of e1⟩, _, rfl, a, _, 0, .str "if", rfl, rfl, h1.sq, atI_nat (j := 0) rfl, _, rfl, a, _, 1, v, rfl, rfl, h1.sq, atI_nat (j := 1) rfl, _, rfl, a, _, 2, .ref b1, rfl, rfl, h1.sq, atI_nat (j := 2) rfl, b1, vs, t, ns, ps, _, _, rfl, hb1, hvs, gt, by omega, by omega, by omega, fun X pX H2 s2 nX eX bX => ?_⟩
      have k2 := keepT_of s2
      refine ⟨_, rfl, a, _, 3, .ref c1, rfl, rfl, (h1.keep k2).sq, atI_nat (j := 3) rfl, c1, ws1, f, ns, ps, _, _, rfl, hc1.keep k2, hws.keep k2, gf, by omega, by omega, by omega, fun Y pY H3 s3 nY eY bY => ?_⟩
      refine ⟨by show 4 ≤ sizeLine; decide, fun R fR => ?_⟩
      have sR := same_upd (o := .tup [V.str "if", v, .ref X, .ref Y]) fR
      have kR := keepT_of sR
      have k3 := keepT_of s3
      refine ⟨W, pv, _, rfl, rfl, sR _ _ (s3 _ _ (s2 _ _ e1)), sml, fin _ _ (s2.trans (s3.trans sR)) (.ite (.inl upd_same) (he.keep (k2.trans (k3.trans kR))) (.inl (kR _ _ (k3 _ _ eX))) (bX.keep (k3.trans kR)) (.inl (kR _ _ eY)) (bY.keep kR))⟩
    | @whn a b1 c1 o vs ws1 t f h1 hb1 hvs hc1 hws =>
      have hl : max (lvL t) (lvL f) + 1 ≤ lvL ss := l1
      have hz' : 1 + szL t + szL f ≤ szL ss := z1
      obtain ⟨ge, gm1, gt, gf⟩ := gs
      refine ⟨_, rfl, a, _, 0, .str "when", rfl, rfl, h1.sq, atI_nat (j := 0) rfl, rfl, _, rfl, iteN (by decide +kernel) ?_⟩
      refine ⟨_, rfl, a, _, 0, .str "when", rfl, rfl, h1.sq, atI_nat (j := 0) rfl, rfl, _, rfl, iteS ?_⟩
      refine ⟨_, rfl, .inl ⟨rfl, _, SqL.of e1⟩, _, rfl, a, _, 0, .str "when", rfl, rfl, h1.sq, atI_nat (j := 0) rfl, _, rfl, a, _, 1, .str o, rfl, rfl, h1.sq, atI_nat (j := 1) rfl, _, rfl, a, _, 2, .ref b1, rfl, rfl, h1.sq, atI_nat (j := 2) rfl, b1, vs, t, ns, ps, _, _, rfl, hb1, hvs, gt, by omega, by omega, by omega, fun X pX H2 s2 nX eX bX => ?_⟩
      have k2 := keepT_of s2
      refine ⟨_, rfl, a, _, 3, .ref c1, rfl, rfl, (h1.keep k2).sq, atI_nat (j := 3) rfl, c1, ws1, f, ns, ps, _, _, rfl, hc1.keep k2, hws.keep k2, gf, by omega, by omega, by omega, fun Y pY H3 s3 nY eY bY => ?_⟩
      refine ⟨by show 4 ≤ sizeLine; decide, fun R fR => ?_⟩
      have sR := same_upd (o := .tup [V.str "when", .str o, .ref X, .ref Y]) fR
      have kR := keepT_of sR
      have k3 := keepT_of s3
      refine ⟨W, pv, _, rfl, rfl, sR _ _ (s3 _ _ (s2 _ _ e1)), sml, fin _ _ (s2.trans (s3.trans sR)) (.whn (.inl upd_same) (.inl (kR _ _ (k3 _ _ eX))) (bX.keep (k3.trans kR)) (.inl (kR _ _ eY)) (bY.keep kR))⟩
    | @move a p m k x h1 =>
      refine ⟨_, rfl, a, _, 0, .str "move", rfl, rfl, h1.sq, atI_nat (j := 0) rfl, rfl, _, rfl, iteN (by decide +kernel) ?_⟩
      refine ⟨_, rfl, a, _, 0, .str "move", rfl, rfl, h1.sq, atI_nat (j := 0) rfl, rfl, _, rfl, iteN (by decide +kernel) ?_⟩
      refine ⟨_, rfl, a, _, 0, .str "move", rfl, rfl, h1.sq, atI_nat (j := 0) rfl, rfl, _, rfl, iteS ?_⟩
      have eo : (3 : Int) - p = oth p := by
        rcases gs.1 with rfl | rfl <;> rfl
      refine ⟨_, rfl, .inl ⟨rfl, _, SqL.of e1⟩, _, rfl, a, _, 1, .int p, rfl, rfl, h1.sq, atI_nat (j := 1) rfl, _, _, rfl, rfl, _, rfl, a, _, 2, .str x, rfl, rfl, h1.sq, atI_nat (j := 2) rfl, _, rfl, a, _, 3, .int m, rfl, rfl, h1.sq, atI_nat (j := 3) rfl, _, rfl, a, _, 4, .int k, rfl, rfl, h1.sq, atI_nat (j := 4) rfl, by show 5 ≤ sizeLine; decide, fun R fR => ?_⟩
      have sR := same_upd (o := .tup [V.str "move", .int ((3 : Int) - p), .str x, .int m, .int k]) fR
      refine ⟨W, pv, _, rfl, rfl, sR _ _ e1, sml, fin _ _ sR (.move (.inl ?_))⟩
      rw [← eo]
      exact upd_same
    | @«show» a m v e h1 he =>
      refine ⟨_, rfl, a, _, 0, .str "show", rfl, rfl, h1.sq, atI_nat (j := 0) rfl, rfl, _, rfl, iteN (by decide +kernel) ?_⟩
      refine ⟨_, rfl, a, _, 0, .str "show", rfl, rfl, h1.sq, atI_nat (j := 0) rfl, rfl, _, rfl, iteN (by decide +kernel) ?_⟩
      refine ⟨_, rfl, a, _, 0, .str "show", rfl, rfl, h1.sq, atI_nat (j := 0) rfl, rfl, _, rfl, iteN (by decide +kernel) ?_⟩
      refine ⟨_, rfl, a, _, 0, .str "show", rfl, rfl, h1.sq, atI_nat (j := 0) rfl, rfl, _, rfl, iteS ?_⟩
      have at' : atI [V.int 0, .int 2, .int 1] m = some (.int (oth m)) := by
        have hm := gs.1
        have : m = 0 ∨ m = 1 ∨ m = 2 := by omega
        rcases this with rfl | rfl | rfl
        · exact atI_nat (j := 0) rfl
        · exact atI_nat (j := 1) rfl
        · exact atI_nat (j := 2) rfl
      refine ⟨_, rfl, .inl ⟨rfl, _, SqL.of e1⟩, by show 3 ≤ sizeLine; decide, fun U fU => ?_⟩
      have sU := same_upd (o := .tup [V.int 0, .int 2, .int 1]) fU
      have hU := h1.keep (keepT_of sU)
      refine ⟨_, rfl, a, _, 1, .int m, rfl, rfl, hU.sq, atI_nat (j := 1) rfl, U, _, m, .int (oth m), rfl, rfl, SqT.of upd_same, at', _, rfl, a, _, 2, v, rfl, rfl, hU.sq, atI_nat (j := 2) rfl, by show 3 ≤ sizeLine; decide, fun R fR => ?_⟩
      have sR := same_upd (o := .tup [V.str "show", .int (oth m), v]) fR
      exact ⟨W, pv, _, rfl, rfl, sR _ _ (sU _ _ e1), sml, fin _ _ (sU.trans sR) (.show (.inl upd_same) (he.keep (keepT_of (sU.trans sR))))⟩
    | @pay a sg v e h1 he =>
      have hsg : sg ≠ "if" ∧ sg ≠ "when" ∧ sg ≠ "move" ∧ sg ≠ "show" := by
        rcases gs.1 with rfl | rfl <;> decide +kernel
      refine ⟨_, rfl, a, _, 0, .str sg, rfl, rfl, h1.sq, atI_nat (j := 0) rfl, rfl, _, rfl, iteN hsg.1 ?_⟩
      refine ⟨_, rfl, a, _, 0, .str sg, rfl, rfl, h1.sq, atI_nat (j := 0) rfl, rfl, _, rfl, iteN hsg.2.1 ?_⟩
      refine ⟨_, rfl, a, _, 0, .str sg, rfl, rfl, h1.sq, atI_nat (j := 0) rfl, rfl, _, rfl, iteN hsg.2.2.1 ?_⟩
      refine ⟨_, rfl, a, _, 0, .str sg, rfl, rfl, h1.sq, atI_nat (j := 0) rfl, rfl, _, rfl, iteN hsg.2.2.2 ?_⟩
      rcases gs.1 with rfl | rfl
      · refine ⟨_, rfl, a, _, 0, .str "pay", rfl, rfl, h1.sq, atI_nat (j := 0) rfl, rfl, _, rfl, iteS (iteT ?_)⟩
        refine ⟨_, rfl, .inl ⟨rfl, _, SqL.of e1⟩, by show 2 ≤ sizeLine; decide, fun U fU => ?_⟩
        have sU := same_upd (o := .tup [V.str "pay", .str "take"]) fU
        have hU := h1.keep (keepT_of sU)
        refine ⟨_, rfl, a, _, 0, .str "pay", rfl, rfl, hU.sq, atI_nat (j := 0) rfl, rfl, .inr ⟨_, rfl, U, _, _, .str "take", rfl, rfl, SqT.of upd_same, ?_, ?_⟩⟩
        · rw [if_pos (decide_eq_true rfl)]
          exact atI_nat (j := 1) rfl
        refine ⟨_, rfl, a, _, 1, v, rfl, rfl, hU.sq, atI_nat (j := 1) rfl, by show 2 ≤ sizeLine; decide, fun R fR => ?_⟩
        have sR := same_upd (o := .tup [V.str "take", v]) fR
        refine ⟨W, pv, _, rfl, rfl, sR _ _ (sU _ _ e1), sml, fin _ _ (sU.trans sR) (.pay (.inl ?_) (he.keep (keepT_of (sU.trans sR))))⟩
        have eo : othP "pay" = ("take" : Str) := by decide +kernel
        rw [eo]
        exact upd_same
      · refine ⟨_, rfl, a, _, 0, .str "take", rfl, rfl, h1.sq, atI_nat (j := 0) rfl, rfl, _, rfl, iteN (by decide +kernel) ?_⟩
        refine ⟨_, rfl, a, _, 0, .str "take", rfl, rfl, h1.sq, atI_nat (j := 0) rfl, rfl, _, rfl, iteS ?_⟩
        refine ⟨_, rfl, .inl ⟨rfl, _, SqL.of e1⟩, by show 2 ≤ sizeLine; decide, fun U fU => ?_⟩
        have sU := same_upd (o := .tup [V.str "pay", .str "take"]) fU
        have hU := h1.keep (keepT_of sU)
        refine ⟨_, rfl, a, _, 0, .str "take", rfl, rfl, hU.sq, atI_nat (j := 0) rfl, rfl, .inr ⟨_, rfl, U, _, _, .str "pay", rfl, rfl, SqT.of upd_same, ?_, ?_⟩⟩
        · rw [if_neg (by decide +kernel)]
          exact atI_nat (j := 0) rfl
        refine ⟨_, rfl, a, _, 1, v, rfl, rfl, hU.sq, atI_nat (j := 1) rfl, by show 2 ≤ sizeLine; decide, fun R fR => ?_⟩
        have sR := same_upd (o := .tup [V.str "pay", v]) fR
        refine ⟨W, pv, _, rfl, rfl, sR _ _ (sU _ _ e1), sml, fin _ _ (sU.trans sR) (.pay (.inl ?_) (he.keep (keepT_of (sU.trans sR))))⟩
        have eo : othP "take" = ("pay" : Str) := by decide +kernel
        rw [eo]
        exact upd_same
    | @set a x v e h1 he =>
      refine ⟨_, rfl, a, _, 0, .str "set", rfl, rfl, h1.sq, atI_nat (j := 0) rfl, rfl, _, rfl, iteN (by decide +kernel) ?_⟩
      refine ⟨_, rfl, a, _, 0, .str "set", rfl, rfl, h1.sq, atI_nat (j := 0) rfl, rfl, _, rfl, iteN (by decide +kernel) ?_⟩
      refine ⟨_, rfl, a, _, 0, .str "set", rfl, rfl, h1.sq, atI_nat (j := 0) rfl, rfl, _, rfl, iteN (by decide +kernel) ?_⟩
      refine ⟨_, rfl, a, _, 0, .str "set", rfl, rfl, h1.sq, atI_nat (j := 0) rfl, rfl, _, rfl, iteN (by decide +kernel) ?_⟩
      refine ⟨_, rfl, a, _, 0, .str "set", rfl, rfl, h1.sq, atI_nat (j := 0) rfl, rfl, _, rfl, iteN (by decide +kernel) ?_⟩
      refine ⟨_, rfl, a, _, 0, .str "set", rfl, rfl, h1.sq, atI_nat (j := 0) rfl, rfl, _, rfl, iteN (by decide +kernel) ?_⟩
      exact ⟨_, rfl, .inl ⟨rfl, _, SqL.of e1⟩, _, rfl, W, pv, _, rfl, rfl, e1, sml, fin _ _ (Same.refl _) (.set h1 he)⟩
    | @draw a x m h1 =>
      refine ⟨_, rfl, a, _, 0, .str "draw", rfl, rfl, h1.sq, atI_nat (j := 0) rfl, rfl, _, rfl, iteN (by decide +kernel) ?_⟩
      refine ⟨_, rfl, a, _, 0, .str "draw", rfl, rfl, h1.sq, atI_nat (j := 0) rfl, rfl, _, rfl, iteN (by decide +kernel) ?_⟩
      refine ⟨_, rfl, a, _, 0, .str "draw", rfl, rfl, h1.sq, atI_nat (j := 0) rfl, rfl, _, rfl, iteN (by decide +kernel) ?_⟩
      refine ⟨_, rfl, a, _, 0, .str "draw", rfl, rfl, h1.sq, atI_nat (j := 0) rfl, rfl, _, rfl, iteN (by decide +kernel) ?_⟩
      refine ⟨_, rfl, a, _, 0, .str "draw", rfl, rfl, h1.sq, atI_nat (j := 0) rfl, rfl, _, rfl, iteN (by decide +kernel) ?_⟩
      refine ⟨_, rfl, a, _, 0, .str "draw", rfl, rfl, h1.sq, atI_nat (j := 0) rfl, rfl, _, rfl, iteN (by decide +kernel) ?_⟩
      exact ⟨_, rfl, .inl ⟨rfl, _, SqL.of e1⟩, _, rfl, W, pv, _, rfl, rfl, e1, sml, fin _ _ (Same.refl _) (.draw h1)⟩
  rintro σ' H' ⟨y, pv, rfl, s1, e1, p1⟩
  rw [hl2, List.take_length] at p1
  refine ⟨_, rfl, W, pv, rfl, .inl ⟨SqL.of e1, fun ca fc => ?_⟩⟩
  have s3 := same_upd (o := .tup pv) fc
  exact q ca pv _ (s1.trans s3) (none_back s1 fc) upd_same (p1.keep (keepT_of s3))
theorem ok_law_turned (T : Txt K mg w) : ∀ n, FnOk P w K mg base CX0 (0 + n) T.a_law_turned T.d_law_turned ["block"] (sp_law_turned T n)
  | 0 => ⟨fun vs H Q E h => absurd h (no_law_turned T vs H Q E), fun A outer s H args us vs Q E _ _ _ _ h => absurd h (no_law_turned T vs H Q E)⟩
  | n + 1 => step_law_turned T (ok_law_turned T n)
/-! ### _law_later -/
def sp_law_later (T : Txt K mg w) (n : Nat) : Sp := fun vs H Q _ => ∃ (cc : Int) (b : Addr) (ws : List V) (ss : List St) (ns ps : List Str) (am am' : Nat × Nat), vs = [.ref b, .int cc] ∧ TpK K H b ws ∧ Bv K H ws ss ∧ GL ns ps ss am am' ∧ lvL ss + 1 ≤ n ∧ n ≤ 10 ∧ szL ss ≤ 900 ∧
  ∀ (p : Addr) (pv : List V) (H' : Hp), Same H H' → H p = none → H' p = some (.tup pv) → Bv K H' pv (ltrL cc ss) → Q (.ref p) H'
theorem no_law_later (T : Txt K mg w) : ∀ vs H Q E, ¬ sp_law_later T 0 vs H Q E := fun vs H Q E ⟨_, _, _, _, _, _, _, _, _, _, _, _, h, _⟩ => by omega

theorem step_law_later (T : Txt K mg w) {n : Nat} (G : FnOk P w K mg base CX0 (0 + n) T.a_law_later T.d_law_later ["block", "count"] (sp_law_later T n)) : FnOk P w K mg base CX0 (0 + n + 1) T.a_law_later T.d_law_later ["block", "count"] (sp_law_later T (n + 1)) := by
  refine T.F_law_later.ok sc_law_later (fun vs H Q E h => ?_) (fun cdv A outer s0 H vs Q E hr h => ?_)
  · obtain ⟨cc, b, ws, ss, ns, ps, am, am', rfl, _⟩ := h
    rfl
  obtain ⟨cc, b, ws, ss, ns, ps, am, am', rfl, hb, hv, hg, ln, n10, hz, q⟩ := h
  refine ⟨_, (pss_cons (ps_set (i := 2) sc_law_later.nd rfl (by first | exact Or.inl rfl | exact Or.inr rfl) (pe_lst pa_nil))
      (pss_cons (ps_for PassesOwn.never rfl (pi_tup (pv 0)) (pg_name (i := 3) sc_law_later.nd rfl (by first | exact Or.inl rfl | exact Or.inr rfl)) (pss_one (ps_if (PW.pt (pw_or (pt_cmpR op_eq (pe_ix ix_tup (pv 3) pe_int (fun _ _ => rfl)) pe_str (nomark _)) (pw_or1 (pt_cmpR op_eq (pe_ix ix_tup (pv 3) pe_int (fun _ _ => rfl)) pe_str (nomark _))))) (pss_one (ps_expr (pe_bm PySem.F.plainAttrs_list PySem.F.slot_list_append PySem.F.type_list_append mt_append (pv 2) (pa_cons (pe_tup (pa_cons (pe_ix ix_tup (pv 3) pe_int (fun _ _ => rfl)) (pa_cons (pe_ix ix_tup (pv 3) pe_int (fun _ _ => rfl)) (pa_cons (pe_call G hr (by rfl) T.m_law_later T.F_law_later.kp T.b_law_later .nil pass0 (pa_cons (pe_ix ix_tup (pv 3) pe_int (fun _ _ => rfl)) (pa_cons (pv 1) pa_nil))) (pa_cons (pe_call G hr (by rfl) T.m_law_later T.F_law_later.kp T.b_law_later .nil pass0 (pa_cons (pe_ix ix_tup (pv 3) pe_int (fun _ _ => rfl)) (pa_cons (pv 1) pa_nil))) pa_nil))))) pa_nil)))) (pss_one (ps_if (pt_cmpR op_eq (pe_ix ix_tup (pv 3) pe_int (fun _ _ => rfl)) pe_str (nomark _)) (pss_one (ps_expr (pe_bm PySem.F.plainAttrs_list PySem.F.slot_list_append PySem.F.type_list_append mt_append (pv 2) (pa_cons (pe_tup (pa_cons pe_str (pa_cons (pe_ix ix_tup (pv 3) pe_int (fun _ _ => rfl)) (pa_cons (pe_ix ix_tup (pv 3) pe_int (fun _ _ => rfl)) (pa_cons (pe_ix ix_tup (pv 3) pe_int (fun _ _ => rfl)) (pa_cons (pe_op op_add (pe_ix ix_tup (pv 3) pe_int (fun _ _ => rfl)) (pv 1)) pa_nil)))))) pa_nil)))) (pss_one (ps_expr (pe_bm PySem.F.plainAttrs_list PySem.F.slot_list_append PySem.F.type_list_append mt_append (pv 2) (pa_cons (pv 3) pa_nil)))))))))
      (pss_one (ps_ret (pe_callTy call_tuple_of (by rfl) T.z_tuple (by first | exact PySem.boot_tuple | decide +kernel) (pa_cons (pv 2) pa_nil)))))), ?_⟩
  have hl2 : ws.length = ss.length := Bv.len hv
  have ls := len_sz ss
  refine ⟨by show 0 ≤ sizeLine; decide, fun W fW => ?_⟩
  have sW := same_upd (o := .lst []) fW
  refine ⟨_, rfl, b, rfl, ⟨_, (hb.keep (keepT_of sW)).sq⟩, for_tup (K := K) (a := b) (xs := ws) (fun i σ' H' => ∃ (y : Option V) (pv : List V), σ' = [some (.ref b), some (.int cc), some (.ref W), y] ∧ Same H H' ∧ H' W = some (.lst pv) ∧ Bv K H' pv (ltrL cc (ss.take i))) ⟨_, [], rfl, sW, upd_same, by rw [List.take_zero]; exact .nil⟩ ?_ ?_ ?_⟩
  · rintro i σ' H' _ ⟨y, pv, rfl, s1, _⟩
    exact (hb.keep (keepT_of s1)).sq
  · rintro i z σ' H1 hi ⟨y, pv, rfl, s1, e1, p1⟩
    obtain ⟨s, hs, hsv⟩ := hv.get hi
    obtain ⟨gm, gm', gs⟩ := gl_get hg hs
    have l1 := lvL_get hs
    have z1 := szL_get hs
    have lp := p1.len.trans (by rw [ltrL_map cc, List.length_map])
    have il : (ss.take i).length ≤ ss.length := by rw [List.length_take]; omega
    have tk := ltrL_take (c := cc) hs
    have hz2 := hsv.keep (keepT_of s1)
    -- one more at the end
    have fin : ∀ (v : V) (H2 : Hp), Same H1 H2 → Sv K H2 v (s.ltr cc) → ∃ (y' : Option V) (pv' : List V), [some (V.ref b), some (V.int cc), some (V.ref W), some z] = [some (V.ref b), some (V.int cc), some (V.ref W), y'] ∧ Same H (upd H2 W (.lst (pv ++ [v]))) ∧ upd H2 W (.lst (pv ++ [v])) W = some (.lst pv') ∧ Bv K (upd H2 W (.lst (pv ++ [v]))) pv' (ltrL cc (ss.take (i + 1))) := fun v H2 s2 h2 => by
      have e2 := s2 _ _ e1
      have kW := keepT_lst (ys := pv ++ [v]) e2
      refine ⟨_, pv ++ [v], rfl, same_at (s1.trans s2) fW, upd_same, ?_⟩
      rw [tk]
      exact (p1.keep ((keepT_of s2).trans kW)).app (.one (h2.keep kW))
    have sml : pv.length < sizeLine := small1000 (by omega)
    clear hsv
    cases hz2 with
    | @ite a b1 c1 v e vs ws1 t f h1 he hb1 hvs hc1 hws =>
      have hl : max (lvL t) (lvL f) + 1 ≤ lvL ss := l1
      have hz' : 1 + szL t + szL f ≤ szL ss := z1
      obtain ⟨ge, gm1, gt, gf⟩ := gs
      refine ⟨_, rfl, a, _, 0, .str "if", rfl, rfl, h1.sq, atI_nat (j := 0) rfl, rfl, _, rfl, iteS (iteT ?_)⟩
      refine ⟨_, rfl, .inl ⟨rfl, _, SqL.of e1⟩, _, rfl, a, _, 0, .str "if", rfl, rfl, h1.sq, atI_nat (j := 0) rfl, _, rfl, a, _, 1, v, rfl, rfl, h1.sq, atI_nat (j := 1) rfl, _, rfl, a, _, 2, .ref b1, rfl, rfl, h1.sq, atI_nat (j := 2) rfl, _, rfl, cc, b1, vs, t, ns, ps, _, _, rfl, hb1, hvs, gt, by omega, by omega, by omega, fun X pX H2 s2 nX eX bX => ?_⟩
      have k2 := keepT_of s2
      refine ⟨_, rfl, a, _, 3, .ref c1, rfl, rfl, (h1.keep k2).sq, atI_nat (j := 3) rfl, _, rfl, cc, c1, ws1, f, ns, ps, _, _, rfl, hc1.keep k2, hws.keep k2, gf, by omega, by omega, by omega, fun Y pY H3 s3 nY eY bY => ?_⟩
      refine ⟨by show 4 ≤ sizeLine; decide, fun R fR => ?_⟩
      have sR := same_upd (o := .tup [V.str "if", v, .ref X, .ref Y]) fR
      have kR := keepT_of sR
      have k3 := keepT_of s3
      refine ⟨W, pv, _, rfl, rfl, sR _ _ (s3 _ _ (s2 _ _ e1)), sml, fin _ _ (s2.trans (s3.trans sR)) (.ite (.inl upd_same) (he.keep (k2.trans (k3.trans kR))) (.inl (kR _ _ (k3 _ _ eX))) (bX.keep (k3.trans kR)) (.inl (kR _ _ eY)) (bY.keep kR))⟩
    | @whn a b1 c1 o vs ws1 t f h1 hb1 hvs hc1 hws =>
      have hl : max (lvL t) (lvL f) + 1 ≤ lvL ss := l1
      have hz' : 1 + szL t + szL f ≤ szL ss := z1
      obtain ⟨ge, gm1, gt, gf⟩ := gs
      refine ⟨_, rfl, a, _, 0, .str "when", rfl, rfl, h1.sq, atI_nat (j := 0) rfl, rfl, _, rfl, iteN (by decide +kernel) ?_⟩
      refine ⟨_, rfl, a, _, 0, .str "when", rfl, rfl, h1.sq, atI_nat (j := 0) rfl, rfl, _, rfl, iteS ?_⟩
      refine ⟨_, rfl, .inl ⟨rfl, _, SqL.of e1⟩, _, rfl, a, _, 0, .str "when", rfl, rfl, h1.sq, atI_nat (j := 0) rfl, _, rfl, a, _, 1, .str o, rfl, rfl, h1.sq, atI_nat (j := 1) rfl, _, rfl, a, _, 2, .ref b1, rfl, rfl, h1.sq, atI_nat (j := 2) rfl, _, rfl, cc, b1, vs, t, ns, ps, _, _, rfl, hb1, hvs, gt, by omega, by omega, by omega, fun X pX H2 s2 nX eX bX => ?_⟩
      have k2 := keepT_of s2
      refine ⟨_, rfl, a, _, 3, .ref c1, rfl, rfl, (h1.keep k2).sq, atI_nat (j := 3) rfl, _, rfl, cc, c1, ws1, f, ns, ps, _, _, rfl, hc1.keep k2, hws.keep k2, gf, by omega, by omega, by omega, fun Y pY H3 s3 nY eY bY => ?_⟩
      refine ⟨by show 4 ≤ sizeLine; decide, fun R fR => ?_⟩
      have sR := same_upd (o := .tup [V.str "when", .str o, .ref X, .ref Y]) fR
      have kR := keepT_of sR
      have k3 := keepT_of s3
      refine ⟨W, pv, _, rfl, rfl, sR _ _ (s3 _ _ (s2 _ _ e1)), sml, fin _ _ (s2.trans (s3.trans sR)) (.whn (.inl upd_same) (.inl (kR _ _ (k3 _ _ eX))) (bX.keep (k3.trans kR)) (.inl (kR _ _ eY)) (bY.keep kR))⟩
    | @move a p m k x h1 =>
      refine ⟨_, rfl, a, _, 0, .str "move", rfl, rfl, h1.sq, atI_nat (j := 0) rfl, rfl, _, rfl, iteN (by decide +kernel) ?_⟩
      refine ⟨_, rfl, a, _, 0, .str "move", rfl, rfl, h1.sq, atI_nat (j := 0) rfl, rfl, _, rfl, iteN (by decide +kernel) ?_⟩
      refine ⟨_, rfl, a, _, 0, .str "move", rfl, rfl, h1.sq, atI_nat (j := 0) rfl, rfl, _, rfl, iteS ?_⟩
      refine ⟨_, rfl, .inl ⟨rfl, _, SqL.of e1⟩, _, rfl, a, _, 1, .int p, rfl, rfl, h1.sq, atI_nat (j := 1) rfl, _, rfl, a, _, 2, .str x, rfl, rfl, h1.sq, atI_nat (j := 2) rfl, _, rfl, a, _, 3, .int m, rfl, rfl, h1.sq, atI_nat (j := 3) rfl, _, rfl, a, _, 4, .int k, rfl, rfl, h1.sq, atI_nat (j := 4) rfl, _, rfl, _, _, rfl, rfl, by show 5 ≤ sizeLine; decide, fun R fR => ?_⟩
      have sR := same_upd (o := .tup [V.str "move", .int p, .str x, .int m, .int (k + cc)]) fR
      exact ⟨W, pv, _, rfl, rfl, sR _ _ e1, sml, fin _ _ sR (.move (.inl upd_same))⟩
    | @«show» a m v e h1 he =>
      refine ⟨_, rfl, a, _, 0, .str "show", rfl, rfl, h1.sq, atI_nat (j := 0) rfl, rfl, _, rfl, iteN (by decide +kernel) ?_⟩
      refine ⟨_, rfl, a, _, 0, .str "show", rfl, rfl, h1.sq, atI_nat (j := 0) rfl, rfl, _, rfl, iteN (by decide +kernel) ?_⟩
      refine ⟨_, rfl, a, _, 0, .str "show", rfl, rfl, h1.sq, atI_nat (j := 0) rfl, rfl, _, rfl, iteN (by decide +kernel) ?_⟩
      exact ⟨_, rfl, .inl ⟨rfl, _, SqL.of e1⟩, _, rfl, W, pv, _, rfl, rfl, e1, sml, fin _ _ (Same.refl _) (.show h1 he)⟩
    | @pay a sg v e h1 he =>
      have hsg : sg ≠ "if" ∧ sg ≠ "when" ∧ sg ≠ "move" := by
        rcases gs.1 with rfl | rfl <;> decide +kernel
      refine ⟨_, rfl, a, _, 0, .str sg, rfl, rfl, h1.sq, atI_nat (j := 0) rfl, rfl, _, rfl, iteN hsg.1 ?_⟩
      refine ⟨_, rfl, a, _, 0, .str sg, rfl, rfl, h1.sq, atI_nat (j := 0) rfl, rfl, _, rfl, iteN hsg.2.1 ?_⟩
      refine ⟨_, rfl, a, _, 0, .str sg, rfl, rfl, h1.sq, atI_nat (j := 0) rfl, rfl, _, rfl, iteN hsg.2.2 ?_⟩
      exact ⟨_, rfl, .inl ⟨rfl, _, SqL.of e1⟩, _, rfl, W, pv, _, rfl, rfl, e1, sml, fin _ _ (Same.refl _) (.pay h1 he)⟩
    | @set a x v e h1 he =>
      refine ⟨_, rfl, a, _, 0, .str "set", rfl, rfl, h1.sq, atI_nat (j := 0) rfl, rfl, _, rfl, iteN (by decide +kernel) ?_⟩
      refine ⟨_, rfl, a, _, 0, .str "set", rfl, rfl, h1.sq, atI_nat (j := 0) rfl, rfl, _, rfl, iteN (by decide +kernel) ?_⟩
      refine ⟨_, rfl, a, _, 0, .str "set", rfl, rfl, h1.sq, atI_nat (j := 0) rfl, rfl, _, rfl, iteN (by decide +kernel) ?_⟩
      exact ⟨_, rfl, .inl ⟨rfl, _, SqL.of e1⟩, _, rfl, W, pv, _, rfl, rfl, e1, sml, fin _ _ (Same.refl _) (.set h1 he)⟩
    | @draw a x m h1 =>
      refine ⟨_, rfl, a, _, 0, .str "draw", rfl, rfl, h1.sq, atI_nat (j := 0) rfl, rfl, _, rfl, iteN (by decide +kernel) ?_⟩
      refine ⟨_, rfl, a, _, 0, .str "draw", rfl, rfl, h1.sq, atI_nat (j := 0) rfl, rfl, _, rfl, iteN (by decide +kernel) ?_⟩
      refine ⟨_, rfl, a, _, 0, .str "draw", rfl, rfl, h1.sq, atI_nat (j := 0) rfl, rfl, _, rfl, iteN (by decide +kernel) ?_⟩
      exact ⟨_, rfl, .inl ⟨rfl, _, SqL.of e1⟩, _, rfl, W, pv, _, rfl, rfl, e1, sml, fin _ _ (Same.refl _) (.draw h1)⟩
  rintro σ' H' ⟨y, pv, rfl, s1, e1, p1⟩
  rw [hl2, List.take_length] at p1
  refine ⟨_, rfl, W, pv, rfl, .inl ⟨SqL.of e1, fun ca fc => ?_⟩⟩
  have s3 := same_upd (o := .tup pv) fc
  exact q ca pv _ (s1.trans s3) (none_back s1 fc) upd_same (p1.keep (keepT_of s3))
theorem ok_law_later (T : Txt K mg w) : ∀ n, FnOk P w K mg base CX0 (0 + n) T.a_law_later T.d_law_later ["block", "count"] (sp_law_later T n)
  | 0 => ⟨fun vs H Q E h => absurd h (no_law_later T vs H Q E), fun A outer s H args us vs Q E _ _ _ _ h => absurd h (no_law_later T vs H Q E)⟩
  | n + 1 => step_law_later T (ok_law_later T n)
/-! ### _law_is -/
theorem gdt_ok {os : List (Str × Bool)} {us : List (Str × Int)} {rs : List (Str × List St)} (ho : os.length ≤ 1000) (hu : us.length ≤ 1000) (hr : rs.length ≤ 1000) (h : ∀ q ∈ rs, (∃ ns ps, WfL ns ps q.2) ∧ lvL q.2 ≤ 8 ∧ szL q.2 ≤ 1000) : (PyData.list (gameDt os us rs)).depth < 40 ∧ wide (.list (gameDt os us rs)) = true := by
  have d1 := dep_map (f := optD) (n := 1) (xs := os) fun q _ => by simp [optD, PyData.depth, PyData.depthAll]
  have d2 := dep_map (f := varD) (n := 1) (xs := us) fun q _ => by simp [varD, PyData.depth, PyData.depthAll]
  have d3 := dep_map (f := rndD) (n := 32) (xs := rs) fun q m => by
    obtain ⟨⟨ns, ps, w⟩, l, _⟩ := h q m
    have := ldat_depth q.2 w
    simp only [rndD, PyData.depth, PyData.depthAll]
    omega
  have w1 := wide_map (f := optD) (xs := os) fun q _ => by simp [optD, wide, wideAll]
  have w2 := wide_map (f := varD) (xs := us) fun q _ => by simp [varD, wide, wideAll]
  have w3 := wide_map (f := rndD) (xs := rs) fun q m => by
    obtain ⟨_, _, z⟩ := h q m
    have h4 := ldat_wide q.2 (by omega)
    have h5 := len_sz q.2
    have h6 : (datL q.2).length ≤ 1000000 := by rw [datL_len]; omega
    simp [rndD, wide, wideAll, h4, h6]
  refine ⟨?_, ?_⟩
  · simp only [gameDt, PyData.depth, PyData.depthAll]
    omega
  · have l1 : os.length ≤ 1000000 := by omega
    have l2 : us.length ≤ 1000000 := by omega
    have l3 : rs.length ≤ 1000000 := by omega
    simp [gameDt, wide, wideAll, w1, w2, w3, l1, l2, l3]
def sp_law_is (T : Txt K mg w) : Sp := fun vs H Q _ => ∃ (x a : Addr) (os : List (Str × Bool)) (us : List (Str × Int)) (rs : List (Str × List St)) (rest : List V), vs = [.ref x, .ref a] ∧ GameS K T.C_Game H x os us rs ∧ GameT K H a os us rs rest ∧ ((PyData.list (gameDt os us rs)).depth < 40 ∧ wide (.list (gameDt os us rs)) = true) ∧ ∀ H', Same H H' → Q (.bl true) H'

theorem ok_law_is (T : Txt K mg w) : FnOk P w K mg base CX0 41 T.a_law_is T.d_law_is ["game", "due"] (sp_law_is T) := by
  refine T.F_law_is.ok sc_law_is (fun vs H Q E h => ?_) (fun cdv A outer s H vs Q E hr h => ?_)
  · obtain ⟨x, a, os, us, rs, rest, rfl, _⟩ := h
    rfl
  obtain ⟨x, a, os, us, rs, rest, rfl, gs, gd, ⟨dp, dw⟩, q⟩ := h
  refine ⟨_, (pss_one (ps_ret (pe_and (pe_callB (C8.call_isC T.ic_Game) (by rfl) T.z_isinstance (by first | exact PySem.boot_isinstance | decide +kernel) (pa_cons (pv 0) (pa_cons (pe_glob (v := .ref T.C_Game) (by rfl) T.m_Game rfl) pa_nil))) (pe_one (pe_call (ok_law_same T 40) (hr.mono (by decide)) (by rfl) T.m_law_same T.F_law_same.kp T.b_law_same .nil pass0 (pa_cons (pe_lst (pa_cons (pe_fld (pv 0) rfl) (pa_cons (pe_fld (pv 0) rfl) (pa_cons (pe_fld (pv 0) rfl) pa_nil)))) (pa_cons (pe_callTy call_list_of (by rfl) T.z_list (by first | exact PySem.boot_list | decide +kernel) (pa_cons (pe_slice sl_tupA (pv 1) po_none (po_some pe_int)) pa_nil)) pa_nil))))))), ?_⟩
  obtain ⟨dx, o, u, r, ov, uv, rv, hg, ho, po, hu, pu, hr', pr⟩ := id gs
  refine ⟨_, rfl, x, dx, _, rfl, hg, true, rfl, iteT ?_⟩
  refine ⟨_, rfl, x, T.C_Game, dx, _, _, rfl, hg, T.cl_Game, T.n_Game_options, lk_ix gmNd 0 rfl, _, rfl, x, T.C_Game, dx, _, _, rfl, hg, T.cl_Game, T.n_Game_variables, lk_ix gmNd 1 rfl, _, rfl, x, T.C_Game, dx, _, _, rfl, hg, T.cl_Game, T.n_Game_rounds, lk_ix gmNd 2 rfl, by show 3 ≤ sizeLine; decide, fun L fL => ?_⟩
  have sL := same_upd (o := .lst [V.ref o, .ref u, .ref r]) fL
  have eL := upd_same (H := H) (a := L) (o := .lst [V.ref o, .ref u, .ref r])
  have gdL := gd.keep (keepT_of sL)
  revert sL eL gdL
  generalize upd H L (.lst [V.ref o, .ref u, .ref r]) = H1
  intro sL eL gdL
  clear gd fL
  obtain ⟨lr, o2, u2, r2, ov2, uv2, rv2, ha, ho2, po2, hu2, pu2, hr2, pr2⟩ := id gdL
  -- the data to compare with, as a list
  have fin : ∀ (c : Addr) (H2 : Hp), Same H1 H2 → H2 c = some (.lst [.ref o2, .ref u2, .ref r2]) → ∃ (x y : V) (d : PyData), [V.ref L, V.ref c] = [x, y] ∧ DaK K H2 x d ∧ DaK K H2 y d ∧ d.depth < 40 ∧ wide d = true ∧ Q (.bl true) H2 := fun c H2 s2 ec => by
    have k2 := keepT_of s2
    have kk := keepT_of (sL.trans s2)
    exact ⟨_, _, .list (gameDt os us rs), rfl, .mkL (s2 _ _ eL) (.cons (.mk (.inl (kk _ _ ho)) (da_map (fun _ _ y => y.da) (L2.Paired.mapP po fun _ _ y => y.keep kk))) (.cons (.mk (.inl (kk _ _ hu)) (da_map (fun _ _ y => y.da) (L2.Paired.mapP pu fun _ _ y => y.keep kk))) (.cons (.mk (.inl (kk _ _ hr')) (da_map (fun _ _ y => y.da) (L2.Paired.mapP pr fun _ _ y => y.keep kk))) .nil))), .mkL ec (.cons (.mk (.inl (k2 _ _ ho2)) (da_map (fun _ _ y => y.da) (L2.Paired.mapP po2 fun _ _ y => y.keep k2))) (.cons (.mk (.inl (k2 _ _ hu2)) (da_map (fun _ _ y => y.da) (L2.Paired.mapP pu2 fun _ _ y => y.keep k2))) (.cons (.mk (.inl (k2 _ _ hr2)) (da_map (fun _ _ y => y.da) (L2.Paired.mapP pr2 fun _ _ y => y.keep k2))) .nil))), dp, dw, q _ (sL.trans s2)⟩
  have r01 : rest = [] ∨ ∃ w, rest = [w] := by
    cases rest with
    | nil => exact .inl rfl
    | cons w t =>
      cases t with
      | nil => exact .inr ⟨w, rfl⟩
      | cons _ _ => exact absurd lr (by simp)
  refine ⟨_, rfl, _, rfl, a, _, rfl, SqT.of ha, fun wz => ?_, fun nz Y fY => ?_⟩
  · rcases r01 with rfl | ⟨w, rfl⟩
    · refine ⟨a, _, rfl, .inr (SqT.of ha), fun C fC => ?_⟩
      exact fin C _ (same_upd fC) upd_same
    · exact absurd wz.2 (by show ¬ (HT.sIx 4 4 (some 3) = 4); decide)
  · have ec : cutV (V.ref o2 :: .ref u2 :: .ref r2 :: rest) none (some 3) = [.ref o2, .ref u2, .ref r2] := by
      rcases r01 with rfl | ⟨w, rfl⟩ <;> rfl
    have sY := same_upd (o := .tup (cutV (V.ref o2 :: .ref u2 :: .ref r2 :: rest) none (some 3))) fY
    refine ⟨Y, _, rfl, .inr (SqT.of upd_same), fun C fC => ?_⟩
    refine fin C _ (sY.trans (same_upd fC)) ?_
    rw [upd_same, ec]
/-! ### _law_switches -/
theorem gok_swc {os : List (Str × Bool)} {us : List (Str × Int)} {rs : List (Str × List St)} (h : GOk os us rs) (ns : List Str) : GOk (swc ns os) us rs := by
  have e : (swc ns os).map (·.1) = os.map (·.1) := by
    unfold swc
    rw [List.map_map]
    rfl
  exact ⟨by rw [e]; exact h.o, by unfold swc; rw [List.length_map]; exact h.o6, h.u, h.u12, h.un, h.r, h.r8, by rw [e]; exact h.g⟩
theorem swc_gw (ns : List Str) (os : List (Str × Bool)) (us : List (Str × Int)) (rs : List (Str × List St)) : (gameW (swc ns os) us rs).length = (gameW os us rs).length := by
  unfold gameW
  rw [List.length_append, List.length_append, List.length_append, List.length_append, fl_len3 optW (fun _ => rfl), fl_len3 optW (fun _ => rfl)]
  unfold swc
  rw [List.length_map]
def sp_law_switches (T : Txt K mg w) : Sp := fun vs H Q _ => ∃ (a g pn : Addr) (os : List (Str × Bool)) (us : List (Str × Int)) (rs : List (Str × List St)) (rest : List V) (ns : List Str), vs = [.ref a, .ref g, .ref pn] ∧ GameT K H a os us rs rest ∧ GameS K T.C_Game H g os us rs ∧ H pn = some (.lst (ns.map V.str)) ∧ ns.length ≤ 20 ∧ (∀ x ∈ ns, PyData.strOk x = true) ∧ GOk os us rs ∧ (gameW os us rs).length ≤ 400 ∧ ∀ H', Same H H' → Q (.bl true) H'
theorem strs_shaped {ns : List Str} (h : ∀ x ∈ ns, PyData.strOk x = true) : SeqAt.shaped (.list (ns.map PyData.str)) = true := by
  unfold SeqAt.shaped
  have h1 : PyData.canLayAll0 (ns.map PyData.str) = true := lay_map fun x m => by simp [PyData.canLay0, h x m]
  have h2 : PyData.depthAll (ns.map PyData.str) ≤ 0 := dep_map (f := PyData.str) (n := 0) fun x _ => by simp [PyData.depth]
  rw [Bool.and_eq_true]
  refine ⟨by simp [PyData.canLay0, h1], decide_eq_true ?_⟩
  simp only [PyData.depth]
  omega
/-- right, up to the i-th name -/
def swR (known ns : List Str) (i : Nat) : Bool := (List.range i).all fun j => match ns[j]? with
  | some x => decide (x ∈ known) && decide (x ∉ ns.take j)
  | none => true
theorem swR_next {known ns : List Str} {i : Nat} {x : Str} (h : ns[i]? = some x) : swR known ns (i + 1) = (swR known ns i && (decide (x ∈ known) && decide (x ∉ ns.take i))) := by
  unfold swR
  rw [List.range_succ, List.all_append]
  simp only [List.all_cons, List.all_nil, h, Bool.and_true]
theorem swR_iff (known ns : List Str) : swR known ns ns.length = true ↔ SwOk known ns := by
  unfold swR SwOk
  rw [List.all_eq_true]
  constructor
  · intro h i x e
    have := h i (List.mem_range.mpr (List.getElem?_eq_some_iff.mp e).1)
    rw [e] at this
    rw [Bool.and_eq_true, decide_eq_true_eq, decide_eq_true_eq] at this
    exact this
  · intro h i m
    have il := List.mem_range.mp m
    have e : ns[i]? = some ns[i] := List.getElem?_eq_getElem il
    rw [e]
    have := h i _ e
    rw [Bool.and_eq_true, decide_eq_true_eq, decide_eq_true_eq]
    exact this

theorem ok_law_switches (T : Txt K mg w) : FnOk P w K mg base CX0 42 T.a_law_switches T.d_law_switches ["game", "made", "names"] (sp_law_switches T) := by
  refine T.F_law_switches.ok sc_law_switches (fun vs H Q E h => ?_) (fun cdv A outer s H vs Q E hr h => ?_)
  · obtain ⟨a, g, pn, os, us, rs, rest, ns, rfl, _⟩ := h
    rfl
  obtain ⟨a, g, pn, os, us, rs, rest, ns, rfl, gd, gs, hn, ln, sn, hok, hl, q⟩ := h
  refine ⟨_, (pss_cons (ps_setLc (i := 3) (own := [("row", 10)]) (g := gName 10) (tt := tYes) rfl sc_law_switches.nd rfl rfl (sw_true rfl rfl rfl (by decide +kernel)) (pi_tup (pe_ix ix_tup (pv 0) pe_int (fun _ _ => rfl))) (blkOk_by (N := N_law_switches) (sc := defScope s_law_switches) (by decide +kernel)) (fun _ _ _ _ _ => (pg_name (i := 10) sc_law_switches.nd rfl (by first | exact Or.inl rfl | exact Or.inr rfl))) (fun _ _ _ _ _ => pts_nil) (fun _ _ _ _ _ => (pe_ix (show IxR _ (rIxT K) from ix_tup) (pv 10) pe_int (fun _ _ => rfl))))
      (pss_cons (ps_set (i := 4) sc_law_switches.nd rfl (by first | exact Or.inl rfl | exact Or.inr rfl) pe_bl)
      (pss_cons (ps_for PassesOwn.never rfl (pi_range1 (by rfl) T.z_range (pa_cons (pe_callB call_len_seq (by rfl) T.z_len (by first | exact PySem.boot_len | decide +kernel) (pa_cons (pv 2) pa_nil)) pa_nil)) (pg_name (i := 5) sc_law_switches.nd rfl (by first | exact Or.inl rfl | exact Or.inr rfl)) (pss_one (ps_set (i := 4) sc_law_switches.nd rfl (by first | exact Or.inl rfl | exact Or.inr rfl) (pe_and (pv 4) (pe_and (pe_cmpR op_in_seq (pe_ix ix_list (pv 2) (pv 5) (fun _ _ => rfl)) (pv 3) (by with_unfolding_all rfl)) (pe_one (pe_cmpR op_notIn_seq (pe_ix ix_list (pv 2) (pv 5) (fun _ _ => rfl)) (pe_slice sl_list (pv 2) po_none (po_some (pv 5))) (by with_unfolding_all rfl))))))))
      (pss_cons (ps_set (i := 6) sc_law_switches.nd rfl (by first | exact Or.inl rfl | exact Or.inr rfl) (pe_callTy call_list_of (by rfl) T.z_list (by first | exact PySem.boot_list | decide +kernel) (pa_cons (pv 2) pa_nil)))
      (pss_cons (ps_try_asN (i := 8) rfl rfl sc_law_switches.nd rfl rfl ⟨rfl, by decide, .inl T.m_GameError⟩ takes0 (fun W pn xe tk ow => (by exact (pss_one (ps_set (i := 7) sc_law_switches.nd rfl (by first | exact Or.inl rfl | exact Or.inr rfl) (pe_callSD (ok_switched_x T) (hr.mono (by decide)) (by rfl) T.m_switched T.F_switched.kp T.b_switched .nil (fun σ => passAt tk σ) (pa_cons (pv 1) (pa_cons (pv 6) pa_nil))))))) (fun ae oe cls d pn hz hf => (by exact (by exact (pss_one (by exact (ps_ret (by exact (by exact (pe_and (by exact (pe_not (by exact (pv 4)))) (by exact (pe_and (by exact (pe_callB (call_isX hz hf) (by rfl) T.z_isinstance (by first | exact PySem.boot_isinstance | decide +kernel) (by exact (pa_cons (by exact (pv 8)) (pa_cons (by exact (pe_glob (v := .ref T.C_BadEdit) (by rfl) T.m_BadEdit rfl)) pa_nil))))) (pe_one (by exact (pe_callQ (ok_law_same_q T) (roomS hr (by decide)) (by rfl) T.m_law_same T.F_law_same.kp T.b_law_same (by exact (pa_cons (by exact (pe_xf T.e_BadEdit.xf T.e_BadEdit.no hz hf (by exact (pv 8)))) (pa_cons pe_str pa_nil))))))))))))))))))
      (pss_cons (ps_set (i := 9) sc_law_switches.nd rfl (by first | exact Or.inl rfl | exact Or.inr rfl) (pe_callTy call_tuple_of (by rfl) T.z_tuple (by first | exact PySem.boot_tuple | decide +kernel) (pa_cons (pe_lc (own := [("row", 10)]) (g := gName 10) (tt := tYes) rfl sc_law_switches.nd (pi_tup (pe_ix ix_tup (pv 0) pe_int (fun _ _ => rfl))) (blkOk_by (N := N_law_switches) (sc := defScope s_law_switches) (by decide +kernel)) (fun _ _ _ _ _ => (pg_name (i := 10) sc_law_switches.nd rfl (by first | exact Or.inl rfl | exact Or.inr rfl))) (fun _ _ _ _ _ => pts_nil) (fun _ _ _ _ _ => (pe_tup (pa_cons (pe_ix (show IxR _ (rIxT K) from ix_tup) (pv 10) pe_int (fun _ _ => rfl)) (pa_cons (pe_cmpR op_ne (pe_ix (show IxR _ (rIxT K) from ix_tup) (pv 10) pe_int (fun _ _ => rfl)) (pe_cmpR (show OpR _ (compareOp .In) (rIn K false) from op_in_seq) (pe_ix (show IxR _ (rIxT K) from ix_tup) (pv 10) pe_int (fun _ _ => rfl)) (pv 2) (by with_unfolding_all rfl)) (nomark _)) pa_nil))))) pa_nil)))
      (pss_one (ps_ret (pe_and (pv 4) (pe_and (pe_cmpR (op_eqD (eq_room hr)) (pv 6) (pv 2) (nomark _)) (pe_one (pe_call (ok_law_is T) (hr.mono (by decide)) (by rfl) T.m_law_is T.F_law_is.kp T.b_law_is .nil pass0 (pa_cons (pv 7) (pa_cons (pe_tup (pa_cons (pv 9) (pa_cons (pe_ix ix_tup (pv 0) pe_int (fun _ _ => rfl)) (pa_cons (pe_ix ix_tup (pv 0) pe_int (fun _ _ => rfl)) pa_nil)))) pa_nil)))))))))))))), ?_⟩
  obtain ⟨lr, o, u, r, ov, uv, rv, ha, ho, po, hu, pu, hr', pr⟩ := id gd
  have lov := paired_len po
  have o6 := hok.o6
  refine ⟨_, rfl, a, _, 0, .ref o, rfl, rfl, SqT.of ha, atI_nat (j := 0) rfl, o, rfl, ⟨_, SqT.of ho⟩, fun D hD => ?_⟩
  refine lc_tup (a := o) (xs := ov) (fun j H6 => Same H H6 ∧ H6 D = some (.lst (((os.take j).map (·.1)).map V.str))) ⟨same_upd hD, upd_same⟩ (fun j H6 _ h => SqT.of (h.1 _ _ ho)) (fun j v H6 hv h => ?_) (fun H6 h => ?_)
  · obtain ⟨s6, e6⟩ := h
    obtain ⟨t, ht, U2, rfl, hU2⟩ := pgetC po hv
    refine ⟨rfl, ?_⟩
    refine ⟨_, rfl, U2, _, 0, .str t.1, rfl, rfl, SqT.of (s6 _ _ hU2), atI_nat (j := 0) rfl, ?_⟩
    refine ⟨_, e6, ?_, same_at s6 hD, ?_⟩
    · rw [List.length_map, List.length_map, List.length_take, sizeLine_eq]
      omega
    · rw [upd_same, List.take_add_one, ht, List.map_append, List.map_append]
      rfl
  obtain ⟨s6, e6⟩ := h
  rw [lov, List.take_length] at e6
  have hn6 := s6 _ _ hn
  refine ⟨_, rfl, pn, _, rfl, .inl (SqL.of hn6), _, rfl, by omega, by rw [List.length_map]; omega, for_range (fun i σ' H' => ∃ (y : Option V), σ' = [some (.ref a), some (.ref g), some (.ref pn), some (.ref D), some (.bl (swR (os.map (·.1)) ns i)), y, none, none, none, none, none] ∧ Same H6 H') ⟨_, rfl, fun _ _ e => e⟩ ?_ ?_⟩
  · rintro i σ' H7 hi ⟨y, rfl, s7⟩
    rw [List.length_map] at hi
    have hx : ns[i]? = some ns[i] := List.getElem?_eq_getElem (by omega)
    have hxv : (ns.map V.str)[i]? = some (.str ns[i]) := by rw [List.getElem?_map, hx]; rfl
    have e0 : (0 : Int) + (i : Int) = ((i : Nat) : Int) := Int.zero_add _
    have nx := swR_next (known := os.map (·.1)) hx
    refine ⟨_, rfl, _, rfl, ite2 (fun c => ?_) (fun c => ?_)⟩
    · refine ⟨_, rfl, _, rfl, pn, _, _, .str ns[i], rfl, rfl, SqL.of (s7 _ _ hn6), at_of e0 hxv, _, rfl, D, (os.map (·.1)).map V.str, rfl, .inl (SqL.of (s7 _ _ e6)), rfl, strs_flat _, _, rfl, ite2 (fun c2 => ?_) (fun c2 => ?_)⟩
      · have m2 := inv_t c2
        refine ⟨_, rfl, _, rfl, pn, _, _, .str ns[i], rfl, rfl, SqL.of (s7 _ _ hn6), at_of e0 hxv, _, rfl, _, rfl, _, rfl, pn, _, rfl, SqL.of (s7 _ _ hn6), fun B fB => ?_⟩
        have eB : cutV (ns.map V.str) none (some ((0 : Int) + (i : Int))) = (ns.take i).map V.str := by
          rw [e0, cut_takeN (by rw [List.length_map]; omega), List.map_take]
        rw [eB]
        have sB := same_upd (o := .lst ((ns.take i).map V.str)) fB
        refine ⟨B, (ns.take i).map V.str, rfl, .inl (SqL.of upd_same), rfl, strs_flat _, ?_⟩
        refine ⟨some (.int (0 + (i : Int))), ?_, s7.trans sB⟩
        rw [nx, c, decide_eq_true m2, inV_strs]
        by_cases m3 : ns[i] ∈ ns.take i
        · rw [decide_eq_true m3, decide_eq_false (fun z => z m3)]
          rfl
        · rw [decide_eq_false m3, decide_eq_true m3]
          rfl
      · refine ⟨some (.int (0 + (i : Int))), ?_, s7⟩
        rw [nx, decide_eq_false (inv_f c2), Bool.false_and, Bool.and_false]
        rfl
    · refine ⟨some (.int (0 + (i : Int))), ?_, s7⟩
      have c' : swR (os.map (·.1)) ns i = false := by
        cases z : swR (os.map (·.1)) ns i with
        | false => rfl
        | true => exact absurd z c
      rw [nx, c', Bool.false_and]
      rfl
  rintro σ' H7 ⟨y, rfl, s7⟩
  rw [List.length_map, show (((ns.length : Nat) : Int)).toNat = ns.length from Int.toNat_natCast _]
  have s67 := s6.trans s7
  have swi := swR_iff (os.map (·.1)) ns
  revert swi
  generalize swR (os.map (·.1)) ns ns.length = right
  intro swi
  have hn7 := s7 _ _ hn6
  refine ⟨_, rfl, pn, _, rfl, .inl (SqL.of hn7), fun B fB => ?_⟩
  have sB := same_upd (o := .lst (ns.map V.str)) fB
  have eB := upd_same (H := H7) (a := B) (o := .lst (ns.map V.str))
  have hn8 := sB _ _ hn7
  have s08 := s67.trans sB
  have gs8 := gs.same s08
  have gd8 := gd.keep (keepT_of s08)
  revert eB hn8 s08 gs8 gd8
  generalize upd H7 B (.lst (ns.map V.str)) = H8
  intro eB hn8 s08 gs8 gd8
  clear s67 s7 sB fB hn7 e6 hn6 s6 hD gs gd ha ho po hu pu hr' pr
  refine ⟨_, rfl, _, rfl, g, B, os, us, rs, ns, rfl, gs8, eB, by omega, by omega, by have := hok.u12; omega, by have := hok.r8; omega, fun no d H9 s9 hd => ?_, fun yes x H9 s9 nx gx => ?_⟩
  · refine ⟨true, T.t_BadEdit_GameError, fun _ ea nea => ?_, fun z => Bool.noConfusion z⟩
    have rf : right = false := by
      cases right with
      | false => rfl
      | true => exact absurd (swi.mp rfl) no
    subst rf
    refine ⟨_, rfl, _, rfl, _, rfl, iteT ?_⟩
    refine ⟨_, rfl, T.C_BadEdit, d, _, true, rfl, rfl, T.e_BadEdit.ox, T.e_BadEdit.xf, T.i_BadEdit, hd, .inl ⟨.ref T.C_BadEdit, .ref T.C_BadEdit, rfl, fun u h => h, T.kk_BadEdit_BadEdit⟩, _, rfl, iteT ?_⟩
    exact ⟨_, rfl, rfl, rfl, d, _, _, rfl, hd, rfl, "options", rfl, q _ (s08.trans s9)⟩
  · have rt : right = true := swi.mpr yes
    subst rt
    have s09 := s08.trans s9
    have gd9 := gd8.keep (keepT_of s9)
    have eB9 := s9 _ _ eB
    have hn9 := s9 _ _ hn8
    obtain ⟨lr, o, u, r, ov, uv, rv, ha, ho, po, hu, pu, hr', pr⟩ := id gd9
    have lov := paired_len po
    refine ⟨_, rfl, a, _, 0, .ref o, rfl, rfl, SqT.of ha, atI_nat (j := 0) rfl, o, rfl, ⟨_, SqT.of ho⟩, fun D2 hD2 => ?_⟩
    refine lc_tup (a := o) (xs := ov) (fun j HA => Same H9 HA ∧ ∃ ws, HA D2 = some (.lst ws) ∧ Paired (OptV HA) ws (swc ns (os.take j))) ⟨same_upd hD2, [], upd_same, .nil⟩ (fun j HA _ h => SqT.of (h.1 _ _ ho)) (fun j v HA hv h => ?_) (fun HA h => ?_)
    · obtain ⟨sA, ws, eA, pA⟩ := h
      obtain ⟨t, ht, U2, rfl, hU2⟩ := pgetC po hv
      have l2 := (paired_len pA).trans (by unfold swc; rw [List.length_map, List.length_take])
      have hUA := sA _ _ hU2
      refine ⟨rfl, ?_⟩
      refine ⟨_, rfl, U2, _, 0, .str t.1, rfl, rfl, SqT.of hUA, atI_nat (j := 0) rfl, _, rfl, U2, _, 1, .bl t.2, rfl, rfl, SqT.of hUA, atI_nat (j := 1) rfl, _, rfl, U2, _, 0, .str t.1, rfl, rfl, SqT.of hUA, atI_nat (j := 0) rfl, _, rfl, pn, ns.map V.str, rfl, .inl (SqL.of (sA _ _ hn9)), rfl, strs_flat _, rfl, by show 2 ≤ sizeLine; decide, fun U hU => ?_⟩
      have eb : (!decide (V.bl t.2 = V.bl (inV (.str t.1) (ns.map V.str)))) = (t.2 != decide (t.1 ∈ ns)) := by
        rw [inV_strs]
        cases t.2 <;> cases decide (t.1 ∈ ns) <;> decide
      have sU := same_upd (o := .tup [V.str t.1, .bl (!decide (V.bl t.2 = V.bl (inV (.str t.1) (ns.map V.str))))]) hU
      have nU : U ≠ D2 := (ne_of_none eA hU).symm
      have kU := (keepT_of sU).trans (keepT_lst (ys := ws ++ [.ref U]) (sU _ _ eA))
      refine ⟨_, sU _ _ eA, small1000 (by omega), fun c o' e => ?_, _, upd_same, ?_⟩
      · rw [upd_ne (ne_of_none e hD2)]
        exact sU _ _ (sA _ _ e)
      · rw [swc_take ht]
        exact paired_snocC (L2.Paired.mapP pA fun _ _ z => OptV.keep kU z) ⟨U, rfl, by rw [upd_ne nU, ← eb]; exact upd_same⟩
    obtain ⟨sA, ws, eA, pA⟩ := h
    rw [lov, List.take_length] at pA
    refine ⟨D2, _, rfl, .inl ⟨SqL.of eA, fun C1 fC1 => ?_⟩⟩
    have sC := same_upd (o := .tup ws) fC1
    have s9C := sA.trans sC
    refine ⟨_, rfl, _, rfl, iteT ?_⟩
    refine ⟨_, rfl, _, rfl, .list (ns.map PyData.str), .list (ns.map PyData.str), .lst (SqL.of (s9C _ _ eB9)) (dp_strs ns), .lst (SqL.of (s9C _ _ hn9)) (dp_strs ns), strs_shaped sn, strs_shaped sn, ?_⟩
    rw [sh_refl (strs_shaped sn)]
    refine ⟨_, rfl, iteT ?_⟩
    have kC := keepT_of s9C
    refine ⟨_, rfl, _, rfl, _, rfl, a, _, 1, .ref u, rfl, rfl, SqT.of (s9C _ _ ha), atI_nat (j := 1) rfl, _, rfl, a, _, 2, .ref r, rfl, rfl, SqT.of (s9C _ _ ha), atI_nat (j := 2) rfl, by show 3 ≤ sizeLine; decide, fun V1 fV => ?_⟩
    have sV := same_upd (o := .tup [V.ref C1, .ref u, .ref r]) fV
    have kV := keepT_of sV
    have kCV := kC.trans kV
    have pc := L2.Paired.mapP pA fun _ _ y => OptV.keep ((keepT_of sC).trans kV) y
    refine ⟨x, V1, swc ns os, us, rs, [], rfl, (gx.same s9C).same sV, ⟨Nat.zero_le _, C1, u, r, ws, uv, rv, upd_same, sV _ _ upd_same, pc, kCV _ _ hu, L2.Paired.mapP pu fun _ _ y => y.keep kCV, kCV _ _ hr', L2.Paired.mapP pr fun _ _ y => y.keep kCV⟩, gameDt_ok (gok_swc hok ns) (by rw [swc_gw]; exact hl), fun HB sB => q _ (s09.trans (s9C.trans (sV.trans sB)))⟩
/-! ### _law_joins -/
def ClashS (i : Nat) (os os' : List (Str × Bool)) (us us' : List (Str × Int)) (rs rs' : List (Str × List St)) : Prop := (0 < i ∧ Clash (os'.map (·.1)) (os.map (·.1))) ∨ (1 < i ∧ Clash (us'.map (·.1)) (us.map (·.1))) ∨ (2 < i ∧ Clash (rs'.map (·.1)) (rs.map (·.1)))
theorem clash_sym {a b : List Str} : Clash a b ↔ Clash b a := ⟨fun ⟨x, h1, h2⟩ => ⟨x, h2, h1⟩, fun ⟨x, h1, h2⟩ => ⟨x, h2, h1⟩⟩
theorem clash3_s (os os' : List (Str × Bool)) (us us' : List (Str × Int)) (rs rs' : List (Str × List St)) : ClashS 3 os os' us us' rs rs' ↔ Clash3 os os' us us' rs rs' := by
  unfold ClashS Clash3
  rw [clash_sym (a := os'.map (·.1)), clash_sym (a := us'.map (·.1)), clash_sym (a := rs'.map (·.1))]
  simp
theorem g4_rd {os : List (Str × Bool)} {us : List (Str × Int)} {rs : List (Str × List St)} (h : GOk os us rs) (w : (gameW os us rs).length ≤ 300) : RdOk rs := fun q m => by
  obtain ⟨m0, m1, gg, lv⟩ := gr_mem h.g m
  obtain ⟨wf, nb⟩ := bl_wf _ _ _ gg
  refine ⟨⟨_, _, wf⟩, nb, lv, ?_⟩
  have h1 := sz_wordsL q.2
  have h2 := fl_mem (f := rndW) m
  have h3 : (rndW q).length = (blockW q.2).length + 3 := by
    show (blockW q.2 ++ (["end"] : List Str)).length + 1 + 1 = _
    rw [List.length_append]
    rfl
  have gl : (gameW os us rs).length = (fl optW os).length + ((fl varW us).length + (fl rndW rs).length) := by
    unfold gameW
    rw [List.length_append, List.length_append]
  omega
theorem ltrR_take {c : Int} {rs : List (Str × List St)} {i : Nat} {t : Str × List St} (h : rs[i]? = some t) : ltrR c (rs.take (i + 1)) = ltrR c (rs.take i) ++ [(t.1, ltrL c t.2)] := by
  unfold ltrR
  rw [List.take_add_one, h, List.map_append]
  rfl
def sp_law_joins (T : Txt K mg w) : Sp := fun vs H Q _ => ∃ (a1 a2 pm g1 g2 : Addr) (os os' : List (Str × Bool)) (us us' : List (Str × Int)) (rs rs' : List (Str × List St)) (m m' : Nat), vs = [.ref a1, .ref a2, .ref pm] ∧ GameT K H a1 os us rs [.int ((m : Nat) : Int)] ∧ GameT K H a2 os' us' rs' [.int ((m' : Nat) : Int)] ∧ G4Ok os us rs m ∧ G4Ok os' us' rs' m' ∧ H pm = some (.lst [.ref g1, .ref g2]) ∧ GameS K T.C_Game H g1 os us rs ∧ GameS K T.C_Game H g2 os' us' rs' ∧ ∀ H', Same H H' → Q (.bl true) H'
/-- one of the three sorts of a game's data -/
theorem gt_sort {K : PySem.W.Frag} {H : Hp} {a : Addr} {os : List (Str × Bool)} {us : List (Str × Int)} {rs : List (Str × List St)} {rest : List V} (h : GameT K H a os us rs rest) {i : Nat} (hi : i < 3) : ∃ (xs : List V) (P : Addr) (av : List V) (ns : List Str), H a = some (.tup xs) ∧ xs[i]? = some (.ref P) ∧ H P = some (.tup av) ∧ Paired (FstV H) av ns ∧ ((i = 0 ∧ ns = os.map (·.1)) ∨ (i = 1 ∧ ns = us.map (·.1)) ∨ (i = 2 ∧ ns = rs.map (·.1))) := by
  obtain ⟨lr, o, u, r, ov, uv, rv, ha, ho, po, hu, pu, hr', pr⟩ := h
  have : i = 0 ∨ i = 1 ∨ i = 2 := by omega
  rcases this with rfl | rfl | rfl
  · exact ⟨_, o, ov, _, ha, rfl, ho, fst_map (fun _ _ y => OptV.fst y) po, .inl ⟨rfl, rfl⟩⟩
  · exact ⟨_, u, uv, _, ha, rfl, hu, fst_map (fun _ _ y => VarV.fst y) pu, .inr (.inl ⟨rfl, rfl⟩)⟩
  · exact ⟨_, r, rv, _, ha, rfl, hr', fst_map (fun _ _ y => RndV.fst y) pr, .inr (.inr ⟨rfl, rfl⟩)⟩
theorem clashS_next {i : Nat} (hi : i < 3) {os os' : List (Str × Bool)} {us us' : List (Str × Int)} {rs rs' : List (Str × List St)} {ns ns' : List Str} (h : (i = 0 ∧ ns = os.map (·.1)) ∨ (i = 1 ∧ ns = us.map (·.1)) ∨ (i = 2 ∧ ns = rs.map (·.1))) (h' : (i = 0 ∧ ns' = os'.map (·.1)) ∨ (i = 1 ∧ ns' = us'.map (·.1)) ∨ (i = 2 ∧ ns' = rs'.map (·.1))) : ClashS (i + 1) os os' us us' rs rs' ↔ (ClashS i os os' us us' rs rs' ∨ Clash ns' ns) := by
  unfold ClashS
  rcases h with ⟨rfl, rfl⟩ | ⟨rfl, rfl⟩ | ⟨rfl, rfl⟩
  · rcases h' with ⟨_, rfl⟩ | ⟨z, _⟩ | ⟨z, _⟩
    · simp
    · omega
    · omega
  · rcases h' with ⟨z, _⟩ | ⟨_, rfl⟩ | ⟨z, _⟩
    · omega
    · simp
    · omega
  · rcases h' with ⟨z, _⟩ | ⟨z, _⟩ | ⟨_, rfl⟩
    · omega
    · omega
    · simp [or_assoc]
open Classical in
theorem clash_take {a b : List Str} {j : Nat} {x : Str} (h : b[j]? = some x) : Clash a (b.take (j + 1)) ↔ (Clash a (b.take j) ∨ x ∈ a) := by
  rw [List.take_add_one, h]
  constructor
  · rintro ⟨y, m, z⟩
    rcases List.mem_append.mp m with m | m
    · exact .inl ⟨y, m, z⟩
    · rw [show y = x from by simpa using m] at z
      exact .inr z
  · rintro (⟨y, m, z⟩ | z)
    · exact ⟨y, List.mem_append_left _ m, z⟩
    · exact ⟨x, List.mem_append_right _ (by simp), z⟩

theorem ok_law_joins (T : Txt K mg w) : FnOk P w K mg base CX0 42 T.a_law_joins T.d_law_joins ["one", "other", "made"] (sp_law_joins T) := by
  refine T.F_law_joins.ok sc_law_joins (fun vs H Q E h => ?_) (fun cdv A outer s H vs Q E hr h => ?_)
  · obtain ⟨a1, a2, pm, g1, g2, os, os', us, us', rs, rs', m, m', rfl, _⟩ := h
    rfl
  obtain ⟨a1, a2, pm, g1, g2, os, os', us, us', rs, rs', m, m', rfl, gd1, gd2, ok1, ok2, hm, gs1, gs2, q⟩ := h
  refine ⟨_, (pss_cons (ps_set (i := 3) sc_law_joins.nd rfl (by first | exact Or.inl rfl | exact Or.inr rfl) pe_bl)
      (pss_cons (ps_for PassesOwn.never rfl (pi_range1 (by rfl) T.z_range (pa_cons pe_int pa_nil)) (pg_name (i := 4) sc_law_joins.nd rfl (by first | exact Or.inl rfl | exact Or.inr rfl)) (pss_one (ps_for PassesOwn.never rfl (pi_tup (pe_ix ix_tup (pv 0) (pv 4) (fun _ _ => rfl))) (pg_name (i := 5) sc_law_joins.nd rfl (by first | exact Or.inl rfl | exact Or.inr rfl)) (pss_one (ps_set (i := 3) sc_law_joins.nd rfl (by first | exact Or.inl rfl | exact Or.inr rfl) (pe_or (pv 3) (pe_one (pe_cmpR op_in_seq (pe_ix ix_tup (pv 5) pe_int (fun _ _ => rfl)) (pe_lc (own := [("entry", 9)]) (g := gName 9) (tt := tYes) rfl sc_law_joins.nd (pi_tup (pe_ix ix_tup (pv 1) (pv 4) (fun _ _ => rfl))) (blkOk_by (N := N_law_joins) (sc := defScope s_law_joins) (by decide +kernel)) (fun _ _ _ _ _ => (pg_name (i := 9) sc_law_joins.nd rfl (by first | exact Or.inl rfl | exact Or.inr rfl))) (fun _ _ _ _ _ => pts_nil) (fun _ _ _ _ _ => (pe_ix (show IxR _ (rIxT K) from ix_tup) (pv 9) pe_int (fun _ _ => rfl)))) (by with_unfolding_all rfl)))))))))
      (pss_cons (ps_try_asN (i := 7) rfl rfl sc_law_joins.nd rfl rfl ⟨rfl, by decide, .inl T.m_GameError⟩ takes0 (fun W pn xe tk ow => (by exact (pss_one (ps_set (i := 6) sc_law_joins.nd rfl (by first | exact Or.inl rfl | exact Or.inr rfl) (pe_callSD (ok_before_x T) (hr.mono (by decide)) (by rfl) T.m_before T.F_before.kp T.b_before .nil (fun σ => passAt tk σ) (pa_cons (pe_ix (show IxR _ (rIxL K) from ix_list) (pv 2) pe_int (fun _ _ => rfl)) (pa_cons (pe_ix (show IxR _ (rIxL K) from ix_list) (pv 2) pe_int (fun _ _ => rfl)) pa_nil))))))) (fun ae oe cls d pn hz hf => (by exact (by exact (pss_one (by exact (ps_ret (by exact (by exact (pe_and (by exact (pv 3)) (by exact (pe_and (by exact (pe_callB (call_isX hz hf) (by rfl) T.z_isinstance (by first | exact PySem.boot_isinstance | decide +kernel) (by exact (pa_cons (by exact (pv 7)) (pa_cons (by exact (pe_glob (v := .ref T.C_BadEdit) (by rfl) T.m_BadEdit rfl)) pa_nil))))) (pe_one (by exact (pe_callQ (ok_law_same_q T) (roomS hr (by decide)) (by rfl) T.m_law_same T.F_law_same.kp T.b_law_same (by exact (pa_cons (by exact (pe_xf T.e_BadEdit.xf T.e_BadEdit.no hz hf (by exact (pv 7)))) (pa_cons pe_str pa_nil))))))))))))))))))
      (pss_cons (ps_set (i := 8) sc_law_joins.nd rfl (by first | exact Or.inl rfl | exact Or.inr rfl) (pe_op op_catA (pe_ix ix_tup (pv 0) pe_int (fun _ _ => rfl)) (pe_callTy call_tuple_of (by rfl) T.z_tuple (by first | exact PySem.boot_tuple | decide +kernel) (pa_cons (pe_lc (own := [("row", 5)]) (g := gName 5) (tt := tYes) rfl sc_law_joins.nd (pi_tup (pe_ix ix_tup (pv 1) pe_int (fun _ _ => rfl))) (blkOk_by (N := N_law_joins) (sc := defScope s_law_joins) (by decide +kernel)) (fun _ _ _ _ _ => (pg_name (i := 5) sc_law_joins.nd rfl (by first | exact Or.inl rfl | exact Or.inr rfl))) (fun _ _ _ _ _ => pts_nil) (fun _ _ _ _ _ => (pe_tup (pa_cons (pe_ix (show IxR _ (rIxT K) from ix_tup) (pv 5) pe_int (fun _ _ => rfl)) (pa_cons (pe_call (ok_law_later T 10) (hr.mono (by decide)) (by rfl) T.m_law_later T.F_law_later.kp T.b_law_later .nil pass0 (pa_cons (pe_ix (show IxR _ (rIxT K) from ix_tup) (pv 5) pe_int (fun _ _ => rfl)) (pa_cons (pe_ix (show IxR _ (rIxT K) from ix_tup) (pv 0) pe_int (fun _ _ => rfl)) pa_nil))) pa_nil))))) pa_nil))))
      (pss_one (ps_ret (pe_and (pe_not (pv 3)) (pe_one (pe_call (ok_law_is T) (hr.mono (by decide)) (by rfl) T.m_law_is T.F_law_is.kp T.b_law_is .nil pass0 (pa_cons (pv 6) (pa_cons (pe_tup (pa_cons (pe_op op_catA (pe_ix ix_tup (pv 0) pe_int (fun _ _ => rfl)) (pe_ix ix_tup (pv 1) pe_int (fun _ _ => rfl))) (pa_cons (pe_op op_catA (pe_ix ix_tup (pv 0) pe_int (fun _ _ => rfl)) (pe_ix ix_tup (pv 1) pe_int (fun _ _ => rfl))) (pa_cons (pv 8) pa_nil)))) pa_nil))))))))))), ?_⟩
  have bl : ∀ {p : Prop} {b : Bool}, (b = true ↔ p) → ¬ p → b = false := fun {p b} h n => by
    cases b with
    | false => rfl
    | true => exact absurd (h.mp rfl) n
  have lens : os.length ≤ 3 ∧ us.length ≤ 4 ∧ rs.length ≤ 3 ∧ os'.length ≤ 3 ∧ us'.length ≤ 4 ∧ rs'.length ≤ 3 := ⟨ok1.lo, ok1.lu, ok1.lr, ok2.lo, ok2.lu, ok2.lr⟩
  refine ⟨3, rfl, by decide, by decide, for_range (fun i σ' H' => ∃ (c : Bool) (y1 y2 : Option V), σ' = [some (.ref a1), some (.ref a2), some (.ref pm), some (.bl c), y1, y2, none, none, none, none] ∧ Same H H' ∧ (c = true ↔ ClashS i os os' us us' rs rs')) ⟨false, _, _, rfl, (fun _ _ e => e), by unfold ClashS; simp⟩ ?_ ?_⟩
  · rintro i σ1 H1 hi ⟨c, y1, y2, rfl, s1, hc⟩
    have i3 : i < 3 := hi
    have e0 : (0 : Int) + (i : Int) = ((i : Nat) : Int) := Int.zero_add _
    obtain ⟨xs, P, av, ns, ha, hx, hP, pa, w⟩ := gt_sort (gd1.keep (keepT_of s1)) i3
    obtain ⟨xs', P', av', ns', ha', hx', hP', pa', w'⟩ := gt_sort (gd2.keep (keepT_of s1)) i3
    have la := paired_len pa
    have la' := paired_len pa'
    have ln' : ns'.length ≤ 4 := by
      rcases w' with ⟨_, rfl⟩ | ⟨_, rfl⟩ | ⟨_, rfl⟩ <;> rw [List.length_map] <;> omega
    have nx := clashS_next i3 w w'
    refine ⟨_, rfl, _, rfl, a1, _, _, .ref P, rfl, rfl, SqT.of ha, at_of e0 hx, P, rfl, ⟨_, SqT.of hP⟩, for_tup (K := K) (a := P) (xs := av) (fun j σ' H' => ∃ (c : Bool) (y : Option V), σ' = [some (.ref a1), some (.ref a2), some (.ref pm), some (.bl c), some (.int (0 + (i : Int))), y, none, none, none, none] ∧ Same H1 H' ∧ (c = true ↔ (ClashS i os os' us us' rs rs' ∨ Clash ns' (ns.take j)))) ⟨c, _, rfl, (fun _ _ e => e), by rw [hc]; exact ⟨.inl, fun z => z.elim id fun ⟨x, m, _⟩ => (by cases m)⟩⟩ ?_ ?_ ?_⟩
    · rintro j σ' H' _ ⟨c, y, rfl, s2, _⟩
      exact SqT.of (s2 _ _ hP)
    · rintro j z σ' H2 hj ⟨c2, y, rfl, s2, hc2⟩
      obtain ⟨x, hx2, U2, yv, rfl, hU2⟩ := pgetC pa hj
      have ct := clash_take (a := ns') hx2
      refine ⟨_, rfl, _, rfl, ite2 (fun z => ?_) (fun z => ?_)⟩
      · exact ⟨true, _, rfl, s2, ⟨fun _ => (hc2.mp z).imp id fun y => ct.mpr (.inl y), fun _ => rfl⟩⟩
      · refine ⟨_, rfl, U2, _, 0, .str x, rfl, rfl, SqT.of (s2 _ _ hU2), atI_nat (j := 0) rfl, ?_⟩
        refine ⟨_, rfl, _, rfl, a2, _, _, .ref P', rfl, rfl, SqT.of (s2 _ _ ha'), at_of e0 hx', P', rfl, ⟨_, SqT.of (s2 _ _ hP')⟩, fun D hD => ?_⟩
        refine lc_tup (a := P') (xs := av') (fun k H6 => Same H2 H6 ∧ H6 D = some (.lst ((ns'.take k).map V.str))) ⟨same_upd hD, upd_same⟩ (fun k H6 _ h => SqT.of (h.1 _ _ (s2 _ _ hP'))) (fun k v H6 hv h => ?_) (fun H6 h => ?_)
        · obtain ⟨s6, e6⟩ := h
          obtain ⟨x', hx3, U3, y3, rfl, hU3⟩ := pgetC pa' hv
          refine ⟨rfl, ?_⟩
          refine ⟨_, rfl, U3, _, 0, .str x', rfl, rfl, SqT.of (s6 _ _ (s2 _ _ hU3)), atI_nat (j := 0) rfl, ?_⟩
          refine ⟨_, e6, ?_, same_at s6 hD, ?_⟩
          · rw [List.length_map, List.length_take, sizeLine_eq]
            omega
          · rw [upd_same, List.take_add_one, hx3, List.map_append]
            rfl
        obtain ⟨s6, e6⟩ := h
        rw [la', List.take_length] at e6
        refine ⟨D, ns'.map V.str, rfl, .inl (SqL.of e6), rfl, strs_flat _, ?_⟩
        refine ⟨inV (.str x) (ns'.map V.str), some (.ref U2), rfl, s2.trans s6, ?_⟩
        rw [inV_strs, decide_eq_true_eq, ct]
        have n2 : ¬ (ClashS i os os' us us' rs rs' ∨ Clash ns' (ns.take j)) := fun y => z (hc2.mpr y)
        exact ⟨fun y => .inr (.inr y), fun y => y.elim (fun k => absurd (.inl k) n2) fun y => y.elim (fun k => absurd (.inr k) n2) id⟩
    · rintro σ' H2 ⟨c2, y, rfl, s2, hc2⟩
      rw [la, List.take_length, ← nx] at hc2
      exact ⟨c2, _, _, rfl, s1.trans s2, hc2⟩
  rintro σ1 H1 ⟨c, y1, y2, rfl, s1, hc⟩
  have hc : c = true ↔ Clash3 os os' us us' rs rs' := hc.trans (clash3_s _ _ _ _ _ _)
  have hm1 := s1 _ _ hm
  refine ⟨_, rfl, pm, _, 0, .ref g1, rfl, rfl, SqL.of hm1, atI_nat (j := 0) rfl, _, rfl, pm, _, 1, .ref g2, rfl, rfl, SqL.of hm1, atI_nat (j := 1) rfl, g1, g2, os, os', us, us', rs, rs', rfl, gs1.same s1, gs2.same s1, g4_rd ok1.ok ok1.w, g4_rd ok2.ok ok2.w, ⟨by omega, by omega, by omega⟩, ⟨by omega, by omega, by omega⟩, fun yes d H2 s2 hd => ?_, fun no x H2 s2 nx gx => ?_⟩
  · refine ⟨true, T.t_BadEdit_GameError, fun _ ea nea => ?_, fun z => Bool.noConfusion z⟩
    obtain rfl := hc.mpr yes
    refine ⟨_, rfl, _, rfl, iteT ?_⟩
    refine ⟨_, rfl, T.C_BadEdit, d, _, true, rfl, rfl, T.e_BadEdit.ox, T.e_BadEdit.xf, T.i_BadEdit, hd, .inl ⟨.ref T.C_BadEdit, .ref T.C_BadEdit, rfl, fun u h => h, T.kk_BadEdit_BadEdit⟩, _, rfl, iteT ?_⟩
    exact ⟨_, rfl, rfl, rfl, d, _, _, rfl, hd, rfl, "names", rfl, q _ (s1.trans s2)⟩
  · obtain rfl := bl hc no
    have s02 := s1.trans s2
    obtain ⟨d, ht⟩ := ok1.t
    obtain ⟨d', ht'⟩ := ok2.t
    rw [numbR_two ht ht'] at gx
    have gx : GameS K T.C_Game H2 x (os ++ os') (us ++ us') (rs ++ ltrR ((m : Nat) : Int) rs') := gx
    have gd12 := gd1.keep (keepT_of s02)
    have gd22 := gd2.keep (keepT_of s02)
    obtain ⟨lr, o, u, r, ov, uv, rv, ha, ho, po, hu, pu, hr', pr⟩ := id gd12
    obtain ⟨lr', o', u', r', ov', uv', rv', ha', ho', po', hu', pu', hr2, pr'⟩ := id gd22
    have lrv' := paired_len pr'
    refine ⟨_, rfl, a1, _, 2, .ref r, rfl, rfl, SqT.of ha, atI_nat (j := 2) rfl, ?_⟩
    refine ⟨_, rfl, a2, _, 2, .ref r', rfl, rfl, SqT.of ha', atI_nat (j := 2) rfl, r', rfl, ⟨_, SqT.of hr2⟩, fun D hD => ?_⟩
    refine lc_tup (a := r') (xs := rv') (fun i H3 => Same H2 H3 ∧ ∃ ws, H3 D = some (.lst ws) ∧ Paired (RndV K H3) ws (ltrR ((m : Nat) : Int) (rs'.take i))) ⟨same_upd hD, [], upd_same, .nil⟩ (fun i H3 _ h => SqT.of (h.1 _ _ hr2)) (fun i v H3 hv h => ?_) (fun H3 h => ?_)
    · obtain ⟨s3, ws, e3, p3⟩ := h
      obtain ⟨t, ht2, U2, b, zs, rfl, hU2, hb, hbv⟩ := pgetC pr' hv
      have mt := List.mem_of_getElem? ht2
      obtain ⟨q1, q2, gg, lv⟩ := gr_mem ok2.ok.g mt
      obtain ⟨_, _, _, sz⟩ := g4_rd ok2.ok ok2.w t mt
      have l3 := (paired_len p3).trans (by unfold ltrR; rw [List.length_map, List.length_take])
      refine ⟨rfl, ?_⟩
      refine ⟨_, rfl, U2, _, 0, .str t.1, rfl, rfl, SqT.of (s3 _ _ hU2), atI_nat (j := 0) rfl, _, rfl, U2, _, 1, .ref b, rfl, rfl, SqT.of (s3 _ _ hU2), atI_nat (j := 1) rfl, _, rfl, a1, _, 3, .int ((m : Nat) : Int), rfl, rfl, SqT.of (s3 _ _ ha), atI_nat (j := 3) rfl, ((m : Nat) : Int), b, zs, t.2, _, _, _, _, rfl, .inl (s3 _ _ hb), hbv.keep (keepT_of s3), gg, by omega, by decide, sz, fun X pX H4 s4 nX eX bX => ?_⟩
      refine ⟨by show 2 ≤ sizeLine; decide, fun U hU => ?_⟩
      have sU := same_upd (o := .tup [V.str t.1, .ref X]) hU
      have e4 := sU _ _ (s4 _ _ e3)
      have kW := keepT_lst (ys := ws ++ [.ref U]) e4
      have kU := (keepT_of sU).trans kW
      have kA := (keepT_of s4).trans kU
      refine ⟨_, e4, small1000 (by omega), fun c o' e => ?_, _, upd_same, ?_⟩
      · rw [upd_ne (ne_of_none e hD)]
        exact sU _ _ (s4 _ _ (s3 _ _ e))
      · rw [ltrR_take ht2]
        exact paired_snocC (L2.Paired.mapP p3 fun _ _ z => RndV.keep kA z) ⟨U, X, pX, rfl, kW _ _ upd_same, kU _ _ eX, bX.keep kU⟩
    obtain ⟨s3, ws, e3, p3⟩ := h
    rw [lrv', List.take_length] at p3
    refine ⟨D, _, rfl, .inl ⟨SqL.of e3, fun C1 fC1 => ?_⟩⟩
    have sC := same_upd (o := .tup ws) fC1
    have s2C := s3.trans sC
    have eC1 := upd_same (H := H3) (a := C1) (o := .tup ws)
    have pC := L2.Paired.mapP p3 fun _ _ y => RndV.keep (keepT_of sC) y
    have gxC := gx.same s2C
    have kC := keepT_of s2C
    have l1 := paired_len po
    have l2 := paired_len po'
    have l3 := paired_len pu
    have l4 := paired_len pu'
    have l5 := paired_len pr
    have l6 := (paired_len p3).trans (by unfold ltrR; rw [List.length_map])
    have prC := L2.Paired.mapP pr fun _ _ y => RndV.keep kC y
    have hrC := kC _ _ hr'
    have haC := kC _ _ ha
    have haC' := kC _ _ ha'
    have hoC := kC _ _ ho
    have hoC' := kC _ _ ho'
    have huC := kC _ _ hu
    have huC' := kC _ _ hu'
    have poC := L2.Paired.mapP po fun _ _ y => OptV.keep kC y
    have poC' := L2.Paired.mapP po' fun _ _ y => OptV.keep kC y
    have puC := L2.Paired.mapP pu fun _ _ y => VarV.keep kC y
    have puC' := L2.Paired.mapP pu' fun _ _ y => VarV.keep kC y
    have s0C := s02.trans s2C
    revert eC1 pC gxC prC hrC haC haC' hoC hoC' huC huC' poC poC' puC puC' s0C
    generalize upd H3 C1 (.tup ws) = H4
    intro eC1 pC gxC prC hrC haC haC' hoC hoC' huC huC' poC poC' puC puC' s0C
    clear s3 e3 p3 fC1 sC s2C kC gx ha ho po hu pu hr' pr ha' ho' po' hu' pu' hr2 pr' hD gd12 gd22
    have dok : (PyData.list (gameDt (os ++ os') (us ++ us') (rs ++ ltrR ((m : Nat) : Int) rs'))).depth < 40 ∧ wide (.list (gameDt (os ++ os') (us ++ us') (rs ++ ltrR ((m : Nat) : Int) rs'))) = true := by
      refine gdt_ok (by rw [List.length_append]; omega) (by rw [List.length_append]; omega) (by unfold ltrR; rw [List.length_append, List.length_map]; omega) fun q mq => ?_
      rcases List.mem_append.mp mq with mq | mq
      · obtain ⟨w1, _, w3, w4⟩ := g4_rd ok1.ok ok1.w q mq
        exact ⟨w1, w3, by omega⟩
      · unfold ltrR at mq
        obtain ⟨t, mt, rfl⟩ := List.mem_map.mp mq
        obtain ⟨⟨ns, ps, w1⟩, _, w3, w4⟩ := g4_rd ok2.ok ok2.w t mt
        obtain ⟨z1, z2, z3⟩ := ltrL_z ((m : Nat) : Int) (ns := ns) (ps := ps) t.2
        exact ⟨⟨ns, ps, z3 w1⟩, by show lvL (ltrL _ t.2) ≤ 8; omega, by show szL (ltrL _ t.2) ≤ 1000; omega⟩
    -- three tuples, each the two put together
    have cat : ∀ {al : Type} {R : Hp → V → al → Prop} (_ : ∀ {H H' : Hp}, KeepT H H' → ∀ v x, R H v x → R H' v x) {H5 : Hp} {p1 p2 : Addr} {v1 v2 : List V} {x1 x2 : List al} {Q : V → Hp → Prop}, H5 p1 = some (.tup v1) → H5 p2 = some (.tup v2) → Paired (R H5) v1 x1 → Paired (R H5) v2 x2 → v1.length + v2.length ≤ 1000 → (∀ p v H', Same H5 H' → H' p = some (.tup v) → Paired (R H') v (x1 ++ x2) → Q (.ref p) H') → rCatA K (.ref p1) (.ref p2) H5 Q := fun {al} {R} kp {H5} {p1} {p2} {v1} {v2} {x1} {x2} {Q} e1 e2 q1 q2 ll k => by
      refine ⟨p1, p2, v1, v2, rfl, rfl, SqT.of e1, SqT.of e2, small_le ll, fun z => ?_, fun _ z => ?_, fun _ _ X fX => ?_⟩
      · subst z
        cases q1
        exact k p2 v2 H5 (Same.refl _) e2 q2
      · subst z
        cases q2
        exact k p1 v1 H5 (Same.refl _) e1 (by rw [List.append_nil]; exact q1)
      · have sX := same_upd (o := .tup (v1 ++ v2)) fX
        exact k X _ _ sX upd_same (paired_app (L2.Paired.mapP q1 fun _ _ y => kp (keepT_of sX) _ _ y) (L2.Paired.mapP q2 fun _ _ y => kp (keepT_of sX) _ _ y))
    refine cat (R := RndV K) (fun k _ _ y => RndV.keep k y) hrC eC1 prC pC (by omega) fun R1 rw1 H5 s5 eR1 pR1 => ?_
    have k5 := keepT_of s5
    refine ⟨_, rfl, _, rfl, _, rfl, iteT ?_⟩
    refine ⟨_, rfl, _, rfl, a1, _, 0, .ref o, rfl, rfl, SqT.of (k5 _ _ haC), atI_nat (j := 0) rfl, _, rfl, a2, _, 0, .ref o', rfl, rfl, SqT.of (k5 _ _ haC'), atI_nat (j := 0) rfl, ?_⟩
    refine cat (R := OptV) (fun k _ _ y => OptV.keep k y) (k5 _ _ hoC) (k5 _ _ hoC') (L2.Paired.mapP poC fun _ _ y => OptV.keep k5 y) (L2.Paired.mapP poC' fun _ _ y => OptV.keep k5 y) (by omega) fun R2 rw2 H6 s6 eR2 pR2 => ?_
    have k6 := k5.trans (keepT_of s6)
    refine ⟨_, rfl, a1, _, 1, .ref u, rfl, rfl, SqT.of (k6 _ _ haC), atI_nat (j := 1) rfl, _, rfl, a2, _, 1, .ref u', rfl, rfl, SqT.of (k6 _ _ haC'), atI_nat (j := 1) rfl, ?_⟩
    refine cat (R := VarV) (fun k _ _ y => VarV.keep k y) (k6 _ _ huC) (k6 _ _ huC') (L2.Paired.mapP puC fun _ _ y => VarV.keep k6 y) (L2.Paired.mapP puC' fun _ _ y => VarV.keep k6 y) (by omega) fun R3 rw3 H7 s7 eR3 pR3 => ?_
    refine ⟨_, rfl, by show 3 ≤ sizeLine; decide, fun V1 fV => ?_⟩
    have sV := same_upd (o := .tup [V.ref R2, .ref R3, .ref R1]) fV
    have s7V := s7.trans sV
    have s6V := s6.trans s7V
    refine ⟨x, V1, os ++ os', us ++ us', rs ++ ltrR ((m : Nat) : Int) rs', [], rfl, gxC.same (s5.trans s6V), ⟨Nat.zero_le _, R2, R3, R1, rw2, rw3, rw1, upd_same, s7V _ _ eR2, L2.Paired.mapP pR2 fun _ _ y => OptV.keep (keepT_of s7V) y, sV _ _ eR3, L2.Paired.mapP pR3 fun _ _ y => VarV.keep (keepT_of sV) y, s6V _ _ eR1, L2.Paired.mapP pR1 fun _ _ y => RndV.keep (keepT_of s6V) y⟩, dok, fun HB sB => q _ (s0C.trans ((s5.trans s6V).trans sB))⟩
/-! ### law -/
theorem GameS.but {K : PySem.W.Frag} {C : Addr} {H H' : Hp} {g p : Addr} {os : List (Str × Bool)} {us : List (Str × Int)} {rs : List (Str × List St)} (h : GameS K C H g os us rs) (k : KeepT H H') (b : But p H H') (n : g ≠ p) : GameS K C H' g os us rs := by
  obtain ⟨dx, o, u, r, ov, uv, rv, hg, ho, po, hu, pu, hr, pr⟩ := h
  exact ⟨dx, o, u, r, ov, uv, rv, b _ _ n hg, k _ _ ho, L2.Paired.mapP po fun _ _ y => y.keep k, k _ _ hu, L2.Paired.mapP pu fun _ _ y => y.keep k, k _ _ hr, L2.Paired.mapP pr fun _ _ y => y.keep k⟩
theorem GameS.ne {K : PySem.W.Frag} {C : Addr} {H : Hp} {g p c : Addr} {b : Int} {os : List (Str × Bool)} {us : List (Str × Int)} {rs : List (Str × List St)} (h : GameS K C H g os us rs) (P : Pool H p c b) : g ≠ p := fun z => by
  obtain ⟨dx, o, u, r, ov, uv, rv, hg, _⟩ := h
  obtain ⟨_, _, _, _, _, hp, _⟩ := P
  rw [z, hp] at hg
  cases hg
/-- what the law has made -/
structure Lw (K : PySem.W.Frag) (C : Addr) (H : Hp) (p a a2 Tk M g1 g2 : Addr) (os os' : List (Str × Bool)) (us us' : List (Str × Int)) (rs rs' : List (Str × List St)) (m m' : Nat) (tk : List Str) : Prop where
  d1 : GameT K H a os us rs [.int ((m : Nat) : Int)]
  d2 : GameT K H a2 os' us' rs' [.int ((m' : Nat) : Int)]
  nT : Tk ≠ p
  eT : H Tk = some (.lst (tk.map V.str))
  nM : M ≠ p
  eM : H M = some (.lst [.ref g1, .ref g2])
  n1 : g1 ≠ p
  n2 : g2 ≠ p
  s1 : GameS K C H g1 os us rs
  s2 : GameS K C H g2 os' us' rs'
theorem Lw.but {K : PySem.W.Frag} {C : Addr} {H H' : Hp} {p a a2 Tk M g1 g2 : Addr} {os os' : List (Str × Bool)} {us us' : List (Str × Int)} {rs rs' : List (Str × List St)} {m m' : Nat} {tk : List Str} (h : Lw K C H p a a2 Tk M g1 g2 os os' us us' rs rs' m m' tk) (k : KeepT H H') (b : But p H H') : Lw K C H' p a a2 Tk M g1 g2 os os' us us' rs rs' m m' tk :=
  ⟨h.d1.keep k, h.d2.keep k, h.nT, b _ _ h.nT h.eT, h.nM, b _ _ h.nM h.eM, h.n1, h.n2, h.s1.but k b h.n1, h.s2.but k b h.n2⟩
theorem Lw.same {K : PySem.W.Frag} {C : Addr} {H H' : Hp} {p a a2 Tk M g1 g2 : Addr} {os os' : List (Str × Bool)} {us us' : List (Str × Int)} {rs rs' : List (Str × List St)} {m m' : Nat} {tk : List Str} (h : Lw K C H p a a2 Tk M g1 g2 os os' us us' rs rs' m m' tk) (s : Same H H') : Lw K C H' p a a2 Tk M g1 g2 os os' us us' rs rs' m m' tk := h.but (keepT_of s) (but_of s)
/-- the pool's budget is set anew -/
theorem pool_set5 {H : Hp} {p c : Addr} {b : Int} (h : Pool H p c b) (n : Int) : ∃ xs : List V, H p = some (.lst xs) ∧ xs.length = 6 ∧ Pool (upd H p (.lst (xs.set 5 (.int n)))) p c n ∧ KeepT H (upd H p (.lst (xs.set 5 (.int n)))) := by
  obtain ⟨zs, i, r, u, tt, hp, hc, hi, hcp⟩ := h
  exact ⟨_, hp, rfl, ⟨zs, i, r, u, tt, upd_same, by rw [upd_ne hcp]; exact hc, hi, hcp⟩, keepT_lst hp⟩
def sp_law (T : Txt K mg w) : Sp := spLaw K

theorem ok_law (T : Txt K mg w) : FnOk P w K mg base CX0 43 T.a_law T.d_law ["script"] (sp_law T) := by
  refine T.F_law.ok sc_law (fun vs H Q E h => ?_) (fun cdv A outer s H vs Q E hr h => ?_)
  · obtain ⟨a, ns, rfl, _⟩ := h
    rfl
  obtain ⟨s0, ns0, rfl, hS, h63, q⟩ := h
  refine ⟨_, (pss_cons (ps_set (i := 1) sc_law.nd rfl (by first | exact Or.inl rfl | exact Or.inr rfl) (pe_call (ok_law_pool T) (hr.mono (by decide)) (by rfl) T.m_law_pool T.F_law_pool.kp T.b_law_pool .nil pass0 (pa_cons (pv 0) (pa_cons pe_int pa_nil))))
      (pss_cons (ps_set (i := 2) sc_law.nd rfl (by first | exact Or.inl rfl | exact Or.inr rfl) (pe_call (ok_law_game T) (hr.mono (by decide)) (by rfl) T.m_law_game T.F_law_game.kp T.b_law_game .nil pass0 (pa_cons (pv 1) (pa_cons (pe_lst pa_nil) pa_nil))))
      (pss_cons (ps_asg pe_int (pg_sub (pv 1) pe_int set_list))
      (pss_cons (ps_set (i := 3) sc_law.nd rfl (by first | exact Or.inl rfl | exact Or.inr rfl) (pe_lst pa_nil))
      (C8.pss_cut (ps_if (pt_cmpR op_gt (pe_call (ok_law_draw T) (hr.mono (by decide)) (by rfl) T.m_law_draw T.F_law_draw.kp T.b_law_draw .nil pass0 (pa_cons (pv 1) (pa_cons pe_int pa_nil))) pe_int (nomark _)) (pss_one (ps_for PassesOwn.never rfl (pi_range1 (by rfl) T.z_range (pa_cons pe_int pa_nil)) (pg_name (i := 4) sc_law.nd rfl (by first | exact Or.inl rfl | exact Or.inr rfl)) (pss_one (ps_set (i := 3) sc_law.nd rfl (by first | exact Or.inl rfl | exact Or.inr rfl) (pe_op op_cat (pv 3) (pe_lc (own := [("row", 12)]) (g := gName 12) (tt := tYes) rfl sc_law.nd (pi_tup (pe_ix ix_tup (pv 2) (pv 4) (fun _ _ => rfl))) (blkOk_by (N := N_law) (sc := defScope s_law) (by decide +kernel)) (fun _ _ _ _ _ => (pg_name (i := 12) sc_law.nd rfl (by first | exact Or.inl rfl | exact Or.inr rfl))) (fun _ _ _ _ _ => pts_nil) (fun _ _ _ _ _ => (pe_ix (show IxR _ (rIxT K) from ix_tup) (pv 12) pe_int (fun _ _ => rfl))))))))) pss_nil)
      (pss_cons (ps_set (i := 5) sc_law.nd rfl (by first | exact Or.inl rfl | exact Or.inr rfl) (pe_call (ok_law_game T) (hr.mono (by decide)) (by rfl) T.m_law_game T.F_law_game.kp T.b_law_game .nil pass0 (pa_cons (pv 1) (pa_cons (pv 3) pa_nil))))
      (pss_cons (ps_set (i := 6) sc_law.nd rfl (by first | exact Or.inl rfl | exact Or.inr rfl) (pe_lst (pa_cons (pe_make T.mk_Game (ok_Game_init T) (hr.mono (by decide)) (by rfl) T.m_Game T.b_Game_init .nil pass0 (pa_cons (pe_ix ix_tup (pv 2) pe_int (fun _ _ => rfl)) (pa_cons (pe_ix ix_tup (pv 2) pe_int (fun _ _ => rfl)) (pa_cons (pe_ix ix_tup (pv 2) pe_int (fun _ _ => rfl)) pa_nil)))) (pa_cons (pe_make T.mk_Game (ok_Game_init T) (hr.mono (by decide)) (by rfl) T.m_Game T.b_Game_init .nil pass0 (pa_cons (pe_ix ix_tup (pv 5) pe_int (fun _ _ => rfl)) (pa_cons (pe_ix ix_tup (pv 5) pe_int (fun _ _ => rfl)) (pa_cons (pe_ix ix_tup (pv 5) pe_int (fun _ _ => rfl)) pa_nil)))) pa_nil))))
      (pss_cons (ps_set (i := 7) sc_law.nd rfl (by first | exact Or.inl rfl | exact Or.inr rfl) (pe_call (ok_swapped T) (hr.mono (by decide)) (by rfl) T.m_swapped T.F_swapped.kp T.b_swapped .nil pass0 (pa_cons (pe_ix ix_list (pv 6) pe_int (fun _ _ => rfl)) pa_nil)))
      (pss_cons (ps_set (i := 8) sc_law.nd rfl (by first | exact Or.inl rfl | exact Or.inr rfl) (pe_tup (pa_cons (pe_ix ix_tup (pv 2) pe_int (fun _ _ => rfl)) (pa_cons (pe_ix ix_tup (pv 2) pe_int (fun _ _ => rfl)) (pa_cons (pe_callTy call_tuple_of (by rfl) T.z_tuple (by first | exact PySem.boot_tuple | decide +kernel) (pa_cons (pe_lc (own := [("row", 12)]) (g := gName 12) (tt := tYes) rfl sc_law.nd (pi_tup (pe_ix ix_tup (pv 2) pe_int (fun _ _ => rfl))) (blkOk_by (N := N_law) (sc := defScope s_law) (by decide +kernel)) (fun _ _ _ _ _ => (pg_name (i := 12) sc_law.nd rfl (by first | exact Or.inl rfl | exact Or.inr rfl))) (fun _ _ _ _ _ => pts_nil) (fun _ _ _ _ _ => (pe_tup (pa_cons (pe_ix (show IxR _ (rIxT K) from ix_tup) (pv 12) pe_int (fun _ _ => rfl)) (pa_cons (pe_call (ok_law_turned T 10) (hr.mono (by decide)) (by rfl) T.m_law_turned T.F_law_turned.kp T.b_law_turned .nil pass0 (pa_cons (pe_ix (show IxR _ (rIxT K) from ix_tup) (pv 12) pe_int (fun _ _ => rfl)) pa_nil)) pa_nil))))) pa_nil)) pa_nil)))))
      (pss_cons (ps_if (PW.pt (pw_or (pt_not (pt_truth (pe_call (ok_law_is T) (hr.mono (by decide)) (by rfl) T.m_law_is T.F_law_is.kp T.b_law_is .nil pass0 (pa_cons (pv 7) (pa_cons (pv 8) pa_nil))) (fun _ => rfl))) (pw_or1 (pt_not (pt_truth (pe_call (ok_law_same T 40) (hr.mono (by decide)) (by rfl) T.m_law_same T.F_law_same.kp T.b_law_same .nil pass0 (pa_cons (pe_cmpR (op_cmp (fun _ _ => rfl) T.me_Game_eq (ok_Game_eq T) (hr.mono (by decide)) T.b_Game_eq pass0) (pe_call (ok_swapped T) (hr.mono (by decide)) (by rfl) T.m_swapped T.F_swapped.kp T.b_swapped .nil pass0 (pa_cons (pv 7) pa_nil)) (pe_ix ix_list (pv 6) pe_int (fun _ _ => rfl)) (nomark _)) (pa_cons pe_bl pa_nil))) (fun _ => rfl)))))) (pss_one (ps_ret pe_bl)) pss_nil)
      (pss_cons (ps_setLc (i := 9) (own := [("row", 12)]) (g := gName 12) rfl sc_law.nd rfl rfl (sw_true rfl rfl rfl (by decide +kernel)) (pi_tup (pe_ix ix_tup (pv 2) pe_int (fun _ _ => rfl))) (blkOk_by (N := N_law) (sc := defScope s_law) (by decide +kernel)) (fun _ _ _ _ _ => (pg_name (i := 12) sc_law.nd rfl (by first | exact Or.inl rfl | exact Or.inr rfl))) (fun _ _ _ _ _ => pts_one (pt_cmpR op_eq (pe_call (ok_law_draw T) (hr.mono (by decide)) (by rfl) T.m_law_draw T.F_law_draw.kp T.b_law_draw .nil pass0 (pa_cons (pv 1) (pa_cons pe_int pa_nil))) pe_int (nomark _))) (fun _ _ _ _ _ => (pe_ix (show IxR _ (rIxT K) from ix_tup) (pv 12) pe_int (fun _ _ => rfl))))
      (C8.pss_cut (ps_if (pt_cmpR op_eq (pe_call (ok_law_draw T) (hr.mono (by decide)) (by rfl) T.m_law_draw T.F_law_draw.kp T.b_law_draw .nil pass0 (pa_cons (pv 1) (pa_cons pe_int pa_nil))) pe_int (nomark _)) (pss_cons (ps_set (i := 10) sc_law.nd rfl (by first | exact Or.inl rfl | exact Or.inr rfl) (pe_call (ok_law_draw T) (hr.mono (by decide)) (by rfl) T.m_law_draw T.F_law_draw.kp T.b_law_draw .nil pass0 (pa_cons (pv 1) (pa_cons (pe_op op_add (pe_callB call_len_seq (by rfl) T.z_len (by first | exact PySem.boot_len | decide +kernel) (pa_cons (pv 9) pa_nil)) pe_int) pa_nil))))
      (pss_one (ps_set (i := 9) sc_law.nd rfl (by first | exact Or.inl rfl | exact Or.inr rfl) (pe_op op_cat (pe_op op_cat (pe_slice sl_list (pv 9) po_none (po_some (pv 10))) (pe_lst (pa_cons (pe_ix ix_list (pe_op op_cat (pv 9) (pe_lst (pa_cons pe_str pa_nil))) (pe_call (ok_law_draw T) (hr.mono (by decide)) (by rfl) T.m_law_draw T.F_law_draw.kp T.b_law_draw .nil pass0 (pa_cons (pv 1) (pa_cons (pe_op op_add (pe_callB call_len_seq (by rfl) T.z_len (by first | exact PySem.boot_len | decide +kernel) (pa_cons (pv 9) pa_nil)) pe_int) pa_nil))) (fun _ _ => rfl)) pa_nil))) (pe_slice sl_list (pv 9) (po_some (pv 10)) po_none))))) pss_nil)
      (pss_cons (ps_if (PW.pt (pw_or (pt_not (pt_truth (pe_call (ok_law_switches T) (hr.mono (by decide)) (by rfl) T.m_law_switches T.F_law_switches.kp T.b_law_switches .nil pass0 (pa_cons (pv 2) (pa_cons (pe_ix ix_list (pv 6) pe_int (fun _ _ => rfl)) (pa_cons (pv 9) pa_nil)))) (fun _ => rfl))) (pw_or1 (pt_not (pt_truth (pe_call (ok_law_joins T) (hr.mono (by decide)) (by rfl) T.m_law_joins T.F_law_joins.kp T.b_law_joins .nil pass0 (pa_cons (pv 2) (pa_cons (pv 5) (pa_cons (pv 6) pa_nil)))) (fun _ => rfl)))))) (pss_one (ps_ret pe_bl)) pss_nil)
      (pss_cons (ps_asg pe_int (pg_sub (pv 1) pe_int set_list))
      (pss_cons (ps_set (i := 11) sc_law.nd rfl (by first | exact Or.inl rfl | exact Or.inr rfl) (pe_call (ok_law_game T) (hr.mono (by decide)) (by rfl) T.m_law_game T.F_law_game.kp T.b_law_game .nil pass0 (pa_cons (pv 1) (pa_cons (pv 3) pa_nil))))
      (pss_cons (ps_if (PW.pt (pw_or (pt_not (pt_truth (pe_call (ok_law_joins T) (hr.mono (by decide)) (by rfl) T.m_law_joins T.F_law_joins.kp T.b_law_joins .nil pass0 (pa_cons (pv 2) (pa_cons (pv 11) (pa_cons (pe_lst (pa_cons (pe_ix ix_list (pv 6) pe_int (fun _ _ => rfl)) (pa_cons (pe_make T.mk_Game (ok_Game_init T) (hr.mono (by decide)) (by rfl) T.m_Game T.b_Game_init .nil pass0 (pa_cons (pe_ix ix_tup (pv 11) pe_int (fun _ _ => rfl)) (pa_cons (pe_ix ix_tup (pv 11) pe_int (fun _ _ => rfl)) (pa_cons (pe_ix ix_tup (pv 11) pe_int (fun _ _ => rfl)) pa_nil)))) pa_nil))) pa_nil)))) (fun _ => rfl))) (pw_or1 (pt_not (pt_truth (pe_call (ok_law_joins T) (hr.mono (by decide)) (by rfl) T.m_law_joins T.F_law_joins.kp T.b_law_joins .nil pass0 (pa_cons (pv 2) (pa_cons (pv 5) (pa_cons (pv 6) pa_nil)))) (fun _ => rfl)))))) (pss_one (ps_ret pe_bl)) pss_nil)
      (pss_one (ps_ret (pe_and (pe_call (ok_law_is T) (hr.mono (by decide)) (by rfl) T.m_law_is T.F_law_is.kp T.b_law_is .nil pass0 (pa_cons (pe_ix ix_list (pv 6) pe_int (fun _ _ => rfl)) (pa_cons (pv 2) pa_nil))) (pe_one (pe_call (ok_law_is T) (hr.mono (by decide)) (by rfl) T.m_law_is T.F_law_is.kp T.b_law_is .nil pass0 (pa_cons (pe_ix ix_list (pv 6) pe_int (fun _ _ => rfl)) (pa_cons (pv 5) pa_nil))))))))))))))))))))))), ?_⟩
  refine ⟨_, rfl, s0, ns0, 40, rfl, hS, fun p c H1 s1 np nc P1 => ?_⟩
  refine ⟨_, rfl, by show 0 ≤ sizeLine; decide, fun E1 fE1 => ?_⟩
  refine ⟨p, c, E1, 40, [], rfl, P1.same (same_upd fE1), by decide, P1.ne fE1, upd_same, by decide, fun a os us rs m H2 b2' b2 P2 gd2 ok1 => ?_⟩
  obtain ⟨xs, hp2, lx, P3, k3⟩ := pool_set5 P2 40
  refine ⟨_, rfl, p, xs, 5, 5, rfl, rfl, hp2, by rw [lx]; rfl, ?_⟩
  have gd3 := gd2.keep k3
  revert P3 gd3
  generalize upd H2 p (.lst (xs.set 5 (.int 40))) = H3
  intro P3 gd3
  clear hp2 lx k3 xs gd2 P2 b2 fE1 P1 np nc s1 hS h63
  clear H2 E1 H1 ns0
  refine ⟨by show 0 ≤ sizeLine; decide, fun T1 fT1 => ?_⟩
  have sT1 := same_upd (o := .lst []) fT1
  have nT1 := P3.ne fT1
  refine ⟨fun σ' H' => ∃ (Tk : Addr) (y : Option V) (tk : List Str), σ' = [some (.ref s0), some (.ref p), some (.ref a), some (.ref Tk), y, none, none, none, none, none, none, none, none] ∧ Pool H' p c 40 ∧ GameT K H' a os us rs [.int ((m : Nat) : Int)] ∧ Tk ≠ p ∧ H' Tk = some (.lst (tk.map V.str)) ∧ tk.length ≤ 12, ?_, ?_⟩
  · refine ⟨_, rfl, p, c, 3, 40, rfl, by decide, by decide, P3.same sT1, fun t H4 t0 t1 b4 P4 => ?_⟩
    have gd4 := (gd3.keep (keepT_of sT1)).keep ((P3.same sT1).keepT b4)
    have eT4 := b4 _ _ nT1 (upd_same (H := H3) (a := T1) (o := .lst []))
    refine ⟨_, _, rfl, rfl, _, rfl, ite2 (fun _ => ?_) (fun _ => ⟨T1, _, [], rfl, P4, gd4, nT1, eT4, by decide⟩)⟩
    refine ⟨3, rfl, by decide, by decide, for_range (fun i σ' H' => ∃ (Tk : Addr) (y : Option V) (tk : List Str), σ' = [some (.ref s0), some (.ref p), some (.ref a), some (.ref Tk), y, none, none, none, none, none, none, none, none] ∧ Same H4 H' ∧ H' Tk = some (.lst (tk.map V.str)) ∧ tk.length ≤ 4 * i ∧ Tk ≠ p) ⟨T1, _, [], rfl, (fun _ _ e => e), eT4, by decide, nT1⟩ ?_ ?_⟩
    · rintro i σ5 H5 hi ⟨Tk, y, tk, rfl, s5, e5, l5, n5⟩
      have i3 : i < 3 := hi
      have e0 : (0 : Int) + (i : Int) = ((i : Nat) : Int) := Int.zero_add _
      obtain ⟨xs, Pq, av, nn, ha, hx, hP, pa, w⟩ := gt_sort (gd4.keep (keepT_of s5)) i3
      have la := paired_len pa
      have ln : nn.length ≤ 4 := by
        have := ok1.lo
        have := ok1.lu
        have := ok1.lr
        rcases w with ⟨_, rfl⟩ | ⟨_, rfl⟩ | ⟨_, rfl⟩ <;> rw [List.length_map] <;> omega
      refine ⟨_, rfl, _, rfl, _, rfl, a, _, _, .ref Pq, rfl, rfl, SqT.of ha, at_of e0 hx, Pq, rfl, ⟨_, SqT.of hP⟩, fun D hD => ?_⟩
      refine lc_tup (a := Pq) (xs := av) (fun k H6 => Same H5 H6 ∧ H6 D = some (.lst ((nn.take k).map V.str))) ⟨same_upd hD, upd_same⟩ (fun k H6 _ h => SqT.of (h.1 _ _ hP)) (fun k v H6 hv h => ?_) (fun H6 h => ?_)
      · obtain ⟨s6, e6⟩ := h
        obtain ⟨x', hx3, U3, y3, rfl, hU3⟩ := pgetC pa hv
        refine ⟨rfl, ?_⟩
        refine ⟨_, rfl, U3, _, 0, .str x', rfl, rfl, SqT.of (s6 _ _ hU3), atI_nat (j := 0) rfl, ?_⟩
        refine ⟨_, e6, ?_, same_at s6 hD, ?_⟩
        · rw [List.length_map, List.length_take, sizeLine_eq]
          omega
        · rw [upd_same, List.take_add_one, hx3, List.map_append]
          rfl
      obtain ⟨s6, e6⟩ := h
      rw [la, List.take_length] at e6
      refine ⟨Tk, D, _, _, rfl, rfl, s6 _ _ e5, e6, small_le (by rw [List.length_map, List.length_map]; omega), fun Y fY => ?_⟩
      have s46 := s5.trans s6
      refine ⟨Y, _, tk ++ nn, rfl, s46.trans (same_upd fY), by rw [upd_same, List.map_append], by rw [List.length_append]; omega, (P4.same s46).ne fY⟩
    · rintro σ5 H5 ⟨Tk, y, tk, rfl, s5, e5, l5, n5⟩
      exact ⟨Tk, y, tk, rfl, P4.same s5, gd4.keep (keepT_of s5), n5, e5, by omega⟩
  clear sT1 nT1 fT1 gd3 P3
  clear T1
  rintro σ4 H4 ⟨Tk, y4, tk, rfl, P4, gd4, nT, eT, lt⟩
  refine ⟨_, rfl, _, rfl, p, c, Tk, 40, tk, rfl, P4, by decide, nT, eT, lt, fun a2 os' us' rs' m' H5 b5' b5 P5 gd5 ok2 => ?_⟩
  have gd15 := gd4.keep (P4.keepT b5)
  have eT5 := b5 _ _ nT eT
  clear gd4 eT b5 P4
  have rd1 := g4_rd ok1.ok ok1.w
  have rd2 := g4_rd ok2.ok ok2.w
  have lo := ok1.lo
  have lu := ok1.lu
  have lr := ok1.lr
  have lo' := ok2.lo
  have lu' := ok2.lu
  have lr' := ok2.lr
  -- the games
  obtain ⟨_, o, u, r, ov, uv, rv, ha, ho, po, hu, pu, hr', pr⟩ := id gd15
  refine ⟨_, rfl, a, _, 0, .ref o, rfl, rfl, SqT.of ha, atI_nat (j := 0) rfl, _, rfl, a, _, 1, .ref u, rfl, rfl, SqT.of ha, atI_nat (j := 1) rfl, _, rfl, a, _, 2, .ref r, rfl, rfl, SqT.of ha, atI_nat (j := 2) rfl, ?_⟩
  refine make_gameL T (.inr ho) po (by omega) (.inr hu) pu (by omega) (.inr hr') pr (by omega) fun g1 H6 s6 n6 gs1 => ?_
  have gd16 := gd15.keep (keepT_of s6)
  have gd26 := gd5.keep (keepT_of s6)
  have P6 := P5.same s6
  have eT6 := s6 _ _ eT5
  clear gd15 gd5 eT5 P5 ha ho po hu pu hr' pr s6 n6
  obtain ⟨_, o, u, r, ov, uv, rv, ha, ho, po, hu, pu, hr', pr⟩ := id gd26
  refine ⟨_, rfl, a2, _, 0, .ref o, rfl, rfl, SqT.of ha, atI_nat (j := 0) rfl, _, rfl, a2, _, 1, .ref u, rfl, rfl, SqT.of ha, atI_nat (j := 1) rfl, _, rfl, a2, _, 2, .ref r, rfl, rfl, SqT.of ha, atI_nat (j := 2) rfl, ?_⟩
  refine make_gameL T (.inr ho) po (by omega) (.inr hu) pu (by omega) (.inr hr') pr (by omega) fun g2 H7 s7 n7 gs2 => ⟨by show 2 ≤ sizeLine; decide, fun M fM => ?_⟩
  have sM := same_upd (o := .lst [V.ref g1, .ref g2]) fM
  have s6M := s7.trans sM
  have P8 := P6.same s6M
  have gs18 := gs1.same s6M
  have gs28 := gs2.same sM
  have L8 : Lw K T.C_Game (upd H7 M (.lst [V.ref g1, .ref g2])) p a a2 Tk M g1 g2 os os' us us' rs rs' m m' tk := ⟨gd16.keep (keepT_of s6M), gd26.keep (keepT_of s6M), nT, s6M _ _ eT6, (P6.same s7).ne fM, upd_same, gs18.ne P8, gs28.ne P8, gs18, gs28⟩
  revert P8 L8
  generalize upd H7 M (.lst [V.ref g1, .ref g2]) = H8
  intro P8 L8
  clear sM s6M gs18 gs28 gs1 gs2 s7 n7 fM gd16 gd26 P6 eT6 ha ho po hu pu hr' pr
  clear H7 H6 H5 H4 H3
  -- swapped
  refine ⟨_, rfl, M, _, 0, .ref g1, rfl, rfl, SqL.of L8.eM, atI_nat (j := 0) rfl, g1, os, us, rs, rfl, L8.s1, rd1, by omega, by omega, by omega, fun x H9 s9 n9 gx => ?_⟩
  have L9 := L8.same s9
  have P9 := P8.same s9
  obtain ⟨_, o, u, r, ov, uv, rv, ha, ho, po, hu, pu, hr', pr⟩ := id L9.d1
  have lrv := paired_len pr
  refine ⟨_, rfl, a, _, 0, .ref o, rfl, rfl, SqT.of ha, atI_nat (j := 0) rfl, _, rfl, a, _, 1, .ref u, rfl, rfl, SqT.of ha, atI_nat (j := 1) rfl, ?_⟩
  refine ⟨_, rfl, a, _, 2, .ref r, rfl, rfl, SqT.of ha, atI_nat (j := 2) rfl, r, rfl, ⟨_, SqT.of hr'⟩, fun D hD => ?_⟩
  refine lc_tup (a := r) (xs := rv) (fun i H3 => Same H9 H3 ∧ ∃ ws, H3 D = some (.lst ws) ∧ Paired (RndV K H3) ws (swpR (rs.take i))) ⟨same_upd hD, [], upd_same, .nil⟩ (fun i H3 _ h => SqT.of (h.1 _ _ hr')) (fun i v H3 hv h => ?_) (fun H3 h => ?_)
  · obtain ⟨s3, ws, e3, p3⟩ := h
    obtain ⟨t, ht2, U2, b, zs, rfl, hU2, hb, hbv⟩ := pgetC pr hv
    have mt := List.mem_of_getElem? ht2
    obtain ⟨q1, q2, gg, lv⟩ := gr_mem ok1.ok.g mt
    obtain ⟨_, _, _, sz⟩ := rd1 t mt
    have l3 := (paired_len p3).trans (by unfold swpR; rw [List.length_map, List.length_take])
    refine ⟨rfl, ?_⟩
    refine ⟨_, rfl, U2, _, 0, .str t.1, rfl, rfl, SqT.of (s3 _ _ hU2), atI_nat (j := 0) rfl, _, rfl, U2, _, 1, .ref b, rfl, rfl, SqT.of (s3 _ _ hU2), atI_nat (j := 1) rfl, b, zs, t.2, _, _, _, _, rfl, .inl (s3 _ _ hb), hbv.keep (keepT_of s3), gg, by omega, by decide, sz, fun X pX H4 s4 nX eX bX => ?_⟩
    refine ⟨by show 2 ≤ sizeLine; decide, fun U hU => ?_⟩
    have sU := same_upd (o := .tup [V.str t.1, .ref X]) hU
    have e4 := sU _ _ (s4 _ _ e3)
    have kW := keepT_lst (ys := ws ++ [.ref U]) e4
    have kU := (keepT_of sU).trans kW
    have kA := (keepT_of s4).trans kU
    refine ⟨_, e4, small1000 (by omega), fun c o' e => ?_, _, upd_same, ?_⟩
    · rw [upd_ne (ne_of_none e hD)]
      exact sU _ _ (s4 _ _ (s3 _ _ e))
    · rw [swpR_take ht2]
      exact paired_snocC (L2.Paired.mapP p3 fun _ _ z => RndV.keep kA z) ⟨U, X, pX, rfl, kW _ _ upd_same, kU _ _ eX, bX.keep kU⟩
  obtain ⟨s3, ws, e3, p3⟩ := h
  rw [lrv, List.take_length] at p3
  refine ⟨D, _, rfl, .inl ⟨SqL.of e3, fun C1 fC1 => ⟨by show 3 ≤ sizeLine; decide, fun Du fD => ?_⟩⟩⟩
  have sC := same_upd (o := .tup ws) fC1
  have sD := same_upd (o := .tup [V.ref o, .ref u, .ref C1]) fD
  have sCD := sC.trans sD
  have s9D := s3.trans sCD
  have k9D := keepT_of s9D
  have gtD : GameT K (upd (upd H3 C1 (.tup ws)) Du (.tup [V.ref o, .ref u, .ref C1])) Du os us (swpR rs) [] := ⟨Nat.zero_le _, o, u, C1, ov, uv, ws, upd_same, k9D _ _ ho, L2.Paired.mapP po fun _ _ y => OptV.keep k9D y, k9D _ _ hu, L2.Paired.mapP pu fun _ _ y => VarV.keep k9D y, sD _ _ upd_same, L2.Paired.mapP p3 fun _ _ y => RndV.keep (keepT_of sCD) y⟩
  have L10 := L9.same s9D
  have P10 := P9.same s9D
  have gx10 := gx.same s9D
  revert gtD L10 P10 gx10
  generalize upd (upd H3 C1 (.tup ws)) Du (.tup [V.ref o, .ref u, .ref C1]) = H10
  intro gtD L10 P10 gx10
  clear sD sC sCD s9D k9D fD fC1 s3 e3 p3 hD L9 P9 gx n9 s9 L8 P8 ha ho po hu pu hr' pr
  have okS := ok1.ok.swp
  have wS : (gameW os us (swpR rs)).length ≤ 300 := by rw [swp_gw]; exact ok1.w
  have rdS := g4_rd okS wS
  have lS : (swpR rs).length ≤ 3 := by unfold swpR; rw [List.length_map]; exact lr
  refine ⟨_, rfl, _, rfl, x, Du, os, us, swpR rs, [], rfl, gx10, gtD, gameDt_ok okS (by omega), fun H11 s11 => ⟨true, rfl, iteF ?_⟩⟩
  have L11 := L10.same s11
  have P11 := P10.same s11
  have gx11 := gx10.same s11
  clear L10 P10 gx10 gtD s11
  refine ⟨_, rfl, x, os, us, swpR rs, rfl, gx11, rdS, by omega, by omega, by omega, fun x2 H12 s12 n12 gx2 => ?_⟩
  rw [swpR_swpR] at gx2
  have L12 := L11.same s12
  have P12 := P11.same s12
  clear L11 P11 gx11 s12 n12
  obtain ⟨d3, _, _, _, _, _, _, hg3, _⟩ := id gx2
  obtain ⟨d4, _, _, _, _, _, _, hg4, _⟩ := id L12.s1
  refine ⟨_, rfl, M, _, 0, .ref g1, rfl, rfl, SqL.of L12.eM, atI_nat (j := 0) rfl, x2, d3, _, g1, d4, _, rfl, rfl, hg3, hg4, x2, g1, os, os, us, us, rs, rs, rfl, gx2, L12.s1, ok1.ok, ok1.ok, fun cc hcc => ?_⟩
  obtain rfl := hcc.mpr ⟨rfl, rfl, rfl⟩
  refine ⟨.bl true, .bl true, .bool true, rfl, .bl _, .bl _, by simp [PyData.depth], by simp [wide], true, rfl, iteF ?_⟩
  clear hg3 hg4 gx2
  -- the names to switch
  obtain ⟨_, o, u, r, ov, uv, rv, ha, ho, po, hu, pu, hr', pr⟩ := id L12.d1
  have lov := paired_len po
  refine ⟨_, rfl, a, _, 0, .ref o, rfl, rfl, SqT.of ha, atI_nat (j := 0) rfl, o, rfl, ⟨_, SqT.of ho⟩, fun N hN => ?_⟩
  have nNp := P12.ne hN
  have nNc := P12.ne2 hN
  refine lc_tup (a := o) (xs := ov) (fun i H' => (∀ d oo, d ≠ p → H12 d = some oo → H' d = some oo) ∧ (∃ b', Pool H' p c b') ∧ ∃ ns : List Str, H' N = some (.lst (ns.map V.str)) ∧ ns.length ≤ i ∧ ∀ y ∈ ns, y ∈ os.map (·.1)) ⟨(fun d oo _ e => same_upd hN _ _ e), ⟨_, P12.same (same_upd hN)⟩, [], upd_same, Nat.le_refl _, (fun _ z => by cases z)⟩ (fun i H3 _ h => SqT.of (h.1 _ _ (fun z => by obtain ⟨_, _, _, _, _, hp, _⟩ := P12; rw [z, hp] at ho; cases ho) ho)) (fun i v H3 hv h => ?_) (fun H3 h => ?_)
  · obtain ⟨b3, ⟨bb, P3⟩, ns, e3, l3, m3⟩ := h
    obtain ⟨t, ht, U2, rfl, hU2⟩ := pgetC po hv
    have nU2 : U2 ≠ p := fun z => by
      obtain ⟨_, _, _, _, _, hp, _⟩ := P12
      rw [z, hp] at hU2
      cases hU2
    have il : i < os.length := (List.getElem?_eq_some_iff.mp ht).1
    refine ⟨rfl, ?_⟩
    refine ⟨_, rfl, p, c, 2, bb, rfl, by decide, by decide, P3, fun z H4 z0 z1 b4 P4 => ⟨rfl, _, rfl, ite2 (fun _ => ?_) (fun _ => ?_)⟩⟩
    · refine ⟨_, rfl, U2, _, 0, .str t.1, rfl, rfl, SqT.of (b4 _ _ nU2 (b3 _ _ nU2 hU2)), atI_nat (j := 0) rfl, ?_⟩
      refine ⟨_, b4 _ _ nNp e3, small1000 (by rw [List.length_map]; omega), fun d oo nd e => ?_, ⟨_, P4.upd nNp nNc _⟩, ns ++ [t.1], by rw [upd_same, List.map_append]; rfl, by rw [List.length_append]; show _ + 1 ≤ _; omega, fun y my => ?_⟩
      · rw [upd_ne (ne_of_none e hN)]
        exact b4 _ _ nd (b3 _ _ nd e)
      · rcases List.mem_append.mp my with my | my
        · exact m3 y my
        · rw [List.mem_singleton.mp my]
          exact List.mem_map.mpr ⟨t, List.mem_of_getElem? ht, rfl⟩
    · exact ⟨fun d oo nd e => b4 _ _ nd (b3 _ _ nd e), ⟨_, P4⟩, ns, b4 _ _ nNp e3, by omega, m3⟩
  obtain ⟨b3, ⟨bb, P13⟩, ns, e13, l13, m13⟩ := h
  have L13 := L12.but (P12.keepT fun d oo n e => b3 d oo n e) fun d oo n e => b3 d oo n e
  have st13 : ∀ y ∈ ns, PyData.strOk y = true := fun y my => (ok1.ok.o.1 y (m13 y my)).1.ok
  have ln13 : ns.length ≤ 3 := by omega
  clear b3 m13 l13 L12 P12 ha ho po hu pu hr' pr hN
  refine ⟨fun σ' H' => ∃ (N : Addr) (y : Option V) (ns : List Str) (bb : Int), σ' = [some (.ref s0), some (.ref p), some (.ref a), some (.ref Tk), y4, some (.ref a2), some (.ref M), some (.ref x), some (.ref Du), some (.ref N), y, none, none] ∧ Lw K T.C_Game H' p a a2 Tk M g1 g2 os os' us us' rs rs' m m' tk ∧ Pool H' p c bb ∧ H' N = some (.lst (ns.map V.str)) ∧ (∀ y ∈ ns, PyData.strOk y = true) ∧ ns.length ≤ 10, ?_, ?_⟩
  · refine ⟨_, rfl, p, c, 3, bb, rfl, by decide, by decide, P13, fun t H14 t0 t1 b14 P14 => ⟨rfl, _, rfl, ite2 (fun _ => ?_) (fun _ => ?_)⟩⟩
    · have L14 := L13.but (P13.keepT b14) b14
      have e14 := b14 _ _ nNp e13
      refine ⟨_, rfl, _, rfl, N, _, rfl, .inl (SqL.of e14), _, _, rfl, rfl, p, c, _, bb, rfl, by rw [List.length_map]; omega, by rw [List.length_map]; omega, P14, fun z H15 z0 z1 b15 P15 => ?_⟩
      rw [List.length_map] at z1
      obtain ⟨n, rfl⟩ := Int.eq_ofNat_of_zero_le z0
      have hn : n ≤ ns.length := by omega
      have L15 := L14.but (P14.keepT b15) b15
      have e15 := b15 _ _ nNp e14
      refine ⟨_, rfl, _, rfl, _, rfl, N, _, rfl, SqL.of e15, fun B1 f1 => ?_⟩
      have eB1 : cutV (ns.map V.str) none (some ((n : Nat) : Int)) = (ns.take n).map V.str := by
        rw [cut_takeN (by rw [List.length_map]; exact hn), List.map_take]
      rw [eB1]
      have s1 := same_upd (o := .lst ((ns.take n).map V.str)) f1
      refine ⟨_, rfl, by show 1 ≤ sizeLine; decide, fun Z f2 => ?_⟩
      have s2 := same_upd (o := .lst ((["zz"] : List Str).map V.str)) f2
      have s12 := s1.trans s2
      refine ⟨N, Z, _, _, rfl, rfl, s12 _ _ e15, upd_same, small_le (by rw [List.length_map]; show _ + 1 ≤ _; omega), fun Y f3 => ?_⟩
      have s3 := same_upd (o := .lst (ns.map V.str ++ (["zz"] : List Str).map V.str)) f3
      have s13 := s12.trans s3
      have P16 := P15.same s13
      have nB1 := P15.ne f1
      have nY := (P15.same s12).ne f3
      have eB := s3 _ _ (s2 _ _ (upd_same (H := H15) (a := B1) (o := .lst ((ns.take n).map V.str))))
      have eY : upd (upd (upd H15 B1 (.lst ((ns.take n).map V.str))) Z (.lst ((["zz"] : List Str).map V.str))) Y (.lst (ns.map V.str ++ (["zz"] : List Str).map V.str)) Y = some (.lst ((ns ++ (["zz"] : List Str)).map V.str)) := by rw [upd_same, List.map_append]
      have e16 := s13 _ _ e15
      refine ⟨_, rfl, _, rfl, N, _, rfl, .inl (SqL.of e16), _, _, rfl, rfl, p, c, _, bb, rfl, by rw [List.length_map]; omega, by rw [List.length_map]; omega, P16, fun w H17 w0 w1 b17 P17 => ?_⟩
      rw [List.length_map] at w1
      obtain ⟨xw, mw, aw⟩ := pick (ss := ns ++ (["zz"] : List Str)) (r := w) w0 (by rw [List.length_append]; show w < ((_ + 1 : Nat) : Int); omega)
      have eY17 := b17 _ _ nY eY
      have eB17 := b17 _ _ nB1 eB
      have e17 := b17 _ _ nNp e16
      have L17 := (L15.same s13).but (P16.keepT b17) b17
      clear eY eB e16 L15 L14 e14 e15 P16 s13 s12 s3 s2 s1
      refine ⟨Y, _, w, .str xw, rfl, rfl, SqL.of eY17, aw, by show 1 ≤ sizeLine; decide, fun D1 fD1 => ?_⟩
      have t1' := same_upd (o := .lst (([xw] : List Str).map V.str)) fD1
      refine ⟨B1, D1, _, _, rfl, rfl, t1' _ _ eB17, upd_same, small_le (by rw [List.length_map, List.length_take]; show _ + 1 ≤ _; omega), fun E1 fE1 => ?_⟩
      have t2 := same_upd (o := .lst ((ns.take n).map V.str ++ (([xw] : List Str).map V.str))) fE1
      have t12 := t1'.trans t2
      refine ⟨_, rfl, _, rfl, _, rfl, N, _, rfl, SqL.of (t12 _ _ e17), fun F1 fF1 => ?_⟩
      have eF : cutV (ns.map V.str) (some ((n : Nat) : Int)) none = (ns.drop n).map V.str := by
        unfold cutV HT.sIx
        have z : ¬ ((n : Nat) : Int) < 0 := by omega
        simp [z]
        rw [Nat.min_eq_left hn, List.take_of_length_le (by rw [List.length_drop, List.length_map]; omega)]
      rw [eF]
      have t3 := same_upd (o := .lst ((ns.drop n).map V.str)) fF1
      refine ⟨E1, F1, _, _, rfl, rfl, t3 _ _ upd_same, upd_same, small_le (by rw [List.length_append, List.length_map, List.length_map, List.length_take, List.length_drop]; show _ + 1 + _ ≤ _; omega), fun G1 fG1 => ?_⟩
      have t4 := same_upd (o := .lst (((ns.take n).map V.str ++ (([xw] : List Str).map V.str)) ++ (ns.drop n).map V.str)) fG1
      have tA := (t12.trans t3).trans t4
      refine ⟨G1, _, ns.take n ++ [xw] ++ ns.drop n, bb, rfl, L17.same tA, P17.same tA, ?_, fun y my => ?_, ?_⟩
      · rw [upd_same, List.map_append, List.map_append]
        rfl
      · have zz : PyData.strOk "zz" = true := by decide +kernel
        rcases List.mem_append.mp my with my | my
        · rcases List.mem_append.mp my with my | my
          · exact st13 y (List.mem_of_mem_take my)
          · rw [List.mem_singleton.mp my]
            rcases List.mem_append.mp mw with mw | mw
            · exact st13 _ mw
            · rw [List.mem_singleton.mp mw]
              exact zz
        · exact st13 y (List.mem_of_mem_drop my)
      · rw [List.length_append, List.length_append, List.length_take, List.length_drop]
        show _ + 1 + _ ≤ _
        omega
    · exact ⟨N, _, ns, bb, rfl, L13.but (P13.keepT b14) b14, P14, b14 _ _ nNp e13, st13, by omega⟩
  clear L13 P13 e13 st13 ln13 nNp nNc
  rintro σ14 H14 ⟨N, y14, ns, bb, rfl, L14, P14, e14, st14, ln14⟩
  refine ⟨_, rfl, _, rfl, M, _, 0, .ref g1, rfl, rfl, SqL.of L14.eM, atI_nat (j := 0) rfl, _, rfl, a, g1, N, os, us, rs, _, ns, rfl, L14.d1, L14.s1, e14, by omega, st14, ok1.ok, by have := ok1.w; omega, fun H15 s15 => ⟨true, rfl, iteF ?_⟩⟩
  have L15 := L14.same s15
  have P15 := P14.same s15
  clear L14 P14 e14 s15
  refine ⟨_, rfl, _, rfl, _, rfl, a, a2, M, g1, g2, os, os', us, us', rs, rs', m, m', rfl, L15.d1, L15.d2, ok1, ok2, L15.eM, L15.s1, L15.s2, fun H16 s16 => ⟨true, rfl, iteF ?_⟩⟩
  have L16 := L15.same s16
  have P16 := P15.same s16
  clear L15 P15 s16
  obtain ⟨xs, hp2, lx, P17, k17⟩ := pool_set5 P16 20
  refine ⟨_, rfl, p, xs, 5, 5, rfl, rfl, hp2, by rw [lx]; rfl, ?_⟩
  have L17 := L16.but k17 but_upd
  revert P17 L17
  generalize upd H16 p (.lst (xs.set 5 (.int 20))) = H17
  intro P17 L17
  clear hp2 lx k17 xs L16 P16
  refine ⟨_, rfl, _, rfl, p, c, Tk, 20, tk, rfl, P17, by decide, L17.nT, L17.eT, lt, fun a3 os3 us3 rs3 m3 H18 b18' b18 P18 gd3 ok3 => ?_⟩
  have L18 := L17.but (P17.keepT b18) b18
  clear L17 P17 b18
  have lo3 := ok3.lo
  have lu3 := ok3.lu
  have lr3 := ok3.lr
  refine ⟨_, rfl, _, rfl, _, rfl, M, _, 0, .ref g1, rfl, rfl, SqL.of L18.eM, atI_nat (j := 0) rfl, ?_⟩
  obtain ⟨_, o, u, r, ov, uv, rv, ha, ho, po, hu, pu, hr', pr⟩ := id gd3
  refine ⟨_, rfl, a3, _, 0, .ref o, rfl, rfl, SqT.of ha, atI_nat (j := 0) rfl, _, rfl, a3, _, 1, .ref u, rfl, rfl, SqT.of ha, atI_nat (j := 1) rfl, _, rfl, a3, _, 2, .ref r, rfl, rfl, SqT.of ha, atI_nat (j := 2) rfl, ?_⟩
  refine make_gameL T (.inr ho) po (by omega) (.inr hu) pu (by omega) (.inr hr') pr (by omega) fun g3 H19 s19 n19 gs3 => ⟨by show 2 ≤ sizeLine; decide, fun M3 fM3 => ?_⟩
  have sM := same_upd (o := .lst [V.ref g1, .ref g3]) fM3
  have s18M := s19.trans sM
  have L20 := L18.same s18M
  refine ⟨a, a3, M3, g1, g3, os, os3, us, us3, rs, rs3, m, m3, rfl, L20.d1, gd3.keep (keepT_of s18M), ok1, ok3, upd_same, L20.s1, gs3.same sM, fun H21 s21 => ⟨true, rfl, iteF ?_⟩⟩
  have L21 := L20.same s21
  clear L20 L18 ha ho po hu pu hr' pr
  refine ⟨_, rfl, _, rfl, _, rfl, a, a2, M, g1, g2, os, os', us, us', rs, rs', m, m', rfl, L21.d1, L21.d2, ok1, ok2, L21.eM, L21.s1, L21.s2, fun H22 s22 => ⟨true, rfl, iteF ?_⟩⟩
  have L22 := L21.same s22
  refine ⟨_, rfl, M, _, 0, .ref g1, rfl, rfl, SqL.of L22.eM, atI_nat (j := 0) rfl, _, rfl, g1, a, os, us, rs, _, rfl, L22.s1, L22.d1, gameDt_ok ok1.ok (by have := ok1.w; omega), fun H23 s23 => ⟨true, rfl, iteT ?_⟩⟩
  have L23 := L22.same s23
  exact ⟨_, rfl, M, _, 1, .ref g2, rfl, rfl, SqL.of L23.eM, atI_nat (j := 1) rfl, _, rfl, g2, a2, os', us', rs', _, rfl, L23.s2, L23.d2, gameDt_ok ok2.ok (by have := ok2.w; omega), fun H24 _ => q _⟩
end
/-! ### what the top has written -/
theorem all_mk {l : PySem.W.OpenLaw} [PrOk l.prog] {w : World} {K : PySem.W.Frag} {h : Heap} {mg : Str → Option Value} {fa : Addr} (X : K.In h) (G : h.Ns mainGlobals mg) (hfa : mg "law" = some (.ref fa))
    {C_Game : Addr}
    {C_Numbering : Addr}
    {C_GameError : Addr}
    {C_BadEdit fe_BadEdit ce_BadEdit de_BadEdit ne_BadEdit : Addr} {nm_BadEdit qn_BadEdit : Str} {bs_BadEdit sb_BadEdit : List Value} {sn_BadEdit : List Str} {ab_BadEdit : Bool} {cl_BadEdit : Option Bool} {dd_BadEdit oe_BadEdit ae_BadEdit ge_BadEdit he_BadEdit : Option Addr} {k0_BadEdit k1_BadEdit k2_BadEdit k3_BadEdit k5_BadEdit : Option Value} {oce_BadEdit kve_BadEdit dce_BadEdit pme_BadEdit cte_BadEdit cle_BadEdit cme_BadEdit : Value} {sle_BadEdit sme_BadEdit sne_BadEdit : Array (Option Value)} {vse_BadEdit : Array Value} {tfe_BadEdit : Tok}
    {A_OTHER_PAYMENTS : Addr} {es_OTHER_PAYMENTS : Array DictEntry} {en_OTHER_PAYMENTS : Nat} {tk_OTHER_PAYMENTS_0 tk_OTHER_PAYMENTS_1 : Tok}
    {A_OTHER_SEATS : Addr} {tr_OTHER_SEATS : Nat} {tu_OTHER_SEATS : Array (Option Value)} {tk_OTHER_SEATS_0 tk_OTHER_SEATS_1 tk_OTHER_SEATS_2 : Tok}
    {f1 : Addr} {od1 an1 : Option Addr} {sl1 : Array (Option Value)} {oc1 kV1 dc1 pm1 cd1 ct1 : Value}
    {f2 : Addr} {od2 an2 : Option Addr} {sl2 : Array (Option Value)} {oc2 kV2 dc2 pm2 cd2 ct2 : Value}
    {f3 : Addr} {od3 an3 : Option Addr} {sl3 : Array (Option Value)} {oc3 kV3 dc3 pm3 cd3 ct3 : Value}
    {f4 : Addr} {od4 an4 : Option Addr} {sl4 : Array (Option Value)} {oc4 kV4 dc4 pm4 cd4 ct4 : Value}
    {f5 : Addr} {od5 an5 : Option Addr} {sl5 : Array (Option Value)} {oc5 kV5 dc5 pm5 cd5 ct5 : Value}
    {f6 : Addr} {od6 an6 : Option Addr} {sl6 : Array (Option Value)} {oc6 kV6 dc6 pm6 cd6 ct6 : Value}
    {f7 : Addr} {od7 an7 : Option Addr} {sl7 : Array (Option Value)} {oc7 kV7 dc7 pm7 cd7 ct7 : Value}
    {f8 : Addr} {od8 an8 : Option Addr} {sl8 : Array (Option Value)} {oc8 kV8 dc8 pm8 cd8 ct8 : Value}
    {f9 : Addr} {od9 an9 : Option Addr} {sl9 : Array (Option Value)} {oc9 kV9 dc9 pm9 cd9 ct9 : Value}
    {f10 : Addr} {od10 an10 : Option Addr} {sl10 : Array (Option Value)} {oc10 kV10 dc10 pm10 cd10 ct10 : Value}
    {f11 : Addr} {od11 an11 : Option Addr} {sl11 : Array (Option Value)} {oc11 kV11 dc11 pm11 cd11 ct11 : Value}
    {f12 : Addr} {od12 an12 : Option Addr} {sl12 : Array (Option Value)} {oc12 kV12 dc12 pm12 cd12 ct12 : Value}
    {f13 : Addr} {od13 an13 : Option Addr} {sl13 : Array (Option Value)} {oc13 kV13 dc13 pm13 cd13 ct13 : Value}
    {f14 : Addr} {od14 an14 : Option Addr} {sl14 : Array (Option Value)} {oc14 kV14 dc14 pm14 cd14 ct14 : Value}
    {f15 : Addr} {od15 an15 : Option Addr} {sl15 : Array (Option Value)} {oc15 kV15 dc15 pm15 cd15 ct15 : Value}
    {f16 : Addr} {od16 an16 : Option Addr} {sl16 : Array (Option Value)} {oc16 kV16 dc16 pm16 cd16 ct16 : Value}
    {f17 : Addr} {od17 an17 : Option Addr} {sl17 : Array (Option Value)} {oc17 kV17 dc17 pm17 cd17 ct17 : Value}
    {f18 : Addr} {od18 an18 : Option Addr} {sl18 : Array (Option Value)} {oc18 kV18 dc18 pm18 cd18 ct18 : Value}
    {f19 : Addr} {od19 an19 : Option Addr} {sl19 : Array (Option Value)} {oc19 kV19 dc19 pm19 cd19 ct19 : Value}
    {f20 : Addr} {od20 an20 : Option Addr} {sl20 : Array (Option Value)} {oc20 kV20 dc20 pm20 cd20 ct20 : Value}
    {f21 : Addr} {od21 an21 : Option Addr} {sl21 : Array (Option Value)} {oc21 kV21 dc21 pm21 cd21 ct21 : Value}
    {f22 : Addr} {od22 an22 : Option Addr} {sl22 : Array (Option Value)} {oc22 kV22 dc22 pm22 cd22 ct22 : Value}
    {f23 : Addr} {od23 an23 : Option Addr} {sl23 : Array (Option Value)} {oc23 kV23 dc23 pm23 cd23 ct23 : Value}
    {f24 : Addr} {od24 an24 : Option Addr} {sl24 : Array (Option Value)} {oc24 kV24 dc24 pm24 cd24 ct24 : Value}
    {f25 : Addr} {od25 an25 : Option Addr} {sl25 : Array (Option Value)} {oc25 kV25 dc25 pm25 cd25 ct25 : Value}
    {f26 : Addr} {od26 an26 : Option Addr} {sl26 : Array (Option Value)} {oc26 kV26 dc26 pm26 cd26 ct26 : Value}
    {f27 : Addr} {od27 an27 : Option Addr} {sl27 : Array (Option Value)} {oc27 kV27 dc27 pm27 cd27 ct27 : Value}
    {f28 : Addr} {od28 an28 : Option Addr} {sl28 : Array (Option Value)} {oc28 kV28 dc28 pm28 cd28 ct28 : Value}
    (ac_Game : PySem.W.nsIn K mainGlobals "Game" = some (some (.ref C_Game)))
    (pg_Game : PySem.W.plainGet K C_Game Str.empty = true)
    (hd_Game : PySem.W.hasDictIn K C_Game = true)
    (po_Game : PySem.W.plainOver K C_Game = true)
    (sa_Game : PySem.W.findIn K (.ref C_Game) "__setattr__" = some (some (.builtin "object.__setattr__")))
    (mkc_Game : PySem.W.makesIn K C_Game = true)
    (kpc_Game : PySem.W.keepIn K (.ref C_Game) = true)
    (na_Game_options : PySem.W.findIn K (.ref C_Game) "options" = some none)
    (na_Game_variables : PySem.W.findIn K (.ref C_Game) "variables" = some none)
    (na_Game_rounds : PySem.W.findIn K (.ref C_Game) "rounds" = some none)
    (xa_Game : PySem.W.findIn K (.ref C_Game) "__class__" = some (some (.builtin "object.__class__")))
    (xn_Game : PySem.W.specialIn K (.builtin "object.__class__") "__get__" = some (some (.builtin "getset_descriptor.__get__")))
    (xt_Game : PySem.W.takesIn K (.builtin "object.__class__") = some true)
    (xm_Game : PySem.W.mroIn K C_Game (.type "object") = some true)
    (ac_Numbering : PySem.W.nsIn K mainGlobals "Numbering" = some (some (.ref C_Numbering)))
    (pg_Numbering : PySem.W.plainGet K C_Numbering Str.empty = true)
    (hd_Numbering : PySem.W.hasDictIn K C_Numbering = true)
    (po_Numbering : PySem.W.plainOver K C_Numbering = true)
    (sa_Numbering : PySem.W.findIn K (.ref C_Numbering) "__setattr__" = some (some (.builtin "object.__setattr__")))
    (mkc_Numbering : PySem.W.makesIn K C_Numbering = true)
    (kpc_Numbering : PySem.W.keepIn K (.ref C_Numbering) = true)
    (na_Numbering__count : PySem.W.findIn K (.ref C_Numbering) "_count" = some none)
    (ac_GameError : PySem.W.nsIn K mainGlobals "GameError" = some (some (.ref C_GameError)))
    (re_GameError : PySem.W.subIn K (.ref C_GameError) (.type "BaseException") = some true)
    (ri_GameError : PySem.W.isClsIn K C_GameError = true)
    (ac_BadEdit : PySem.W.nsIn K mainGlobals "BadEdit" = some (some (.ref C_BadEdit)))
    (xl_BadEdit : K.lookup C_BadEdit = some (excClassObj nm_BadEdit qn_BadEdit C_BadEdit ne_BadEdit bs_BadEdit [.ref C_GameError, .type "ValueError", .type "Exception", .type "BaseException", .type "object"] true sn_BadEdit sb_BadEdit ab_BadEdit cl_BadEdit dd_BadEdit k0_BadEdit k1_BadEdit k2_BadEdit k3_BadEdit k5_BadEdit "ValueError.__new__"))
    (esa_BadEdit : PySem.W.findIn K (.ref C_BadEdit) "__setattr__" = some (some (.builtin "object.__setattr__")))
    (exc_BadEdit : PySem.W.subIn K (.ref C_BadEdit) (.type "BaseException") = some true)
    (ety_BadEdit : PySem.W.typeIn K (.ref C_BadEdit) = some (.type "type"))
    (ekp_BadEdit : PySem.W.keepIn K (.ref C_BadEdit) = true)
    (ega_BadEdit : PySem.W.findIn K (.ref C_BadEdit) "__getattribute__" = some (some (.builtin "BaseException.__getattribute__")))
    (egg_BadEdit : PySem.W.findIn K (.ref C_BadEdit) "__getattr__" = some none)
    (ehd_BadEdit : PySem.W.hasDictIn K C_BadEdit = true)
    (eno_BadEdit : PySem.W.findIn K (.ref C_BadEdit) "what" = some none)
    (ein_BadEdit : PySem.W.findIn K (.ref C_BadEdit) "__init__" = some (some (.ref fe_BadEdit)))
    (eit_BadEdit : PySem.W.typeIn K (.ref fe_BadEdit) = some (.type "function"))
    (eic_BadEdit : PySem.W.isClsIn K C_BadEdit = true)
    (ess_BadEdit : PySem.W.subIn K (.ref C_BadEdit) (.ref C_BadEdit) = some true)
    (elk_BadEdit : K.lookup fe_BadEdit = some ⟨oce_BadEdit, oe_BadEdit, .func (PySem.W.ksFn "__init__" "BadEdit.__init__" (defArgs s_BadEdit_init) (defBody s_BadEdit_init) (defScope s_BadEdit_init) .none kve_BadEdit dce_BadEdit pme_BadEdit ae_BadEdit (.ref ce_BadEdit) cte_BadEdit de_BadEdit), sle_BadEdit⟩)
    (ecd_BadEdit : PySem.W.codeIn K (.ref ce_BadEdit) "BadEdit.__init__" = true)
    (eco_BadEdit : K.lookup ce_BadEdit = some ⟨cle_BadEdit, ge_BadEdit, .fields vse_BadEdit, sme_BadEdit⟩)
    (evs_BadEdit : vse_BadEdit[2]? = some (.str "/claim/cut.py" tfe_BadEdit))
    (ecc_BadEdit : K.lookup de_BadEdit = some ⟨cme_BadEdit, he_BadEdit, .cell (some (.ref C_BadEdit)), sne_BadEdit⟩)
    (esu_BadEdit : PySem.W.ks_superIn K C_BadEdit C_BadEdit "__init__" = some (some (.builtin "ValueError.__init__")))
    (evb_BadEdit : PySem.W.subIn K (.ref C_BadEdit) (.type "ValueError") = some true)
    (emr_BadEdit : PySem.W.mroIn K C_BadEdit (.ref C_BadEdit) = some true)
    (eha_BadEdit : PySem.W.findIn K (.ref C_BadEdit) "__class__" = some (some (.builtin "object.__class__")))
    (ehm_BadEdit : PySem.W.mroIn K C_BadEdit (.type "object") = some true)
    (esr_GameError_BadEdit : PySem.W.subIn K (.ref C_BadEdit) (.ref C_GameError) = some true)
    (ert_GameError_BadEdit : PySem.W.typeIn K (.ref C_GameError) = some (.type "type"))
    (ehn : PySem.W.specialIn K (.builtin "object.__class__") "__get__" = some (some (.builtin "getset_descriptor.__get__")))
    (eht : PySem.W.takesIn K (.builtin "object.__class__") = some true)
    (opq : PySem.W.nsIn K cStatics "thirdparty.any" = some none)
    (z_super : PySem.W.nsIn K mainGlobals "super" = some none)
    (ac_OTHER_PAYMENTS : PySem.W.nsIn K mainGlobals "OTHER_PAYMENTS" = some (some (.ref A_OTHER_PAYMENTS)))
    (lk_OTHER_PAYMENTS : K.lookup A_OTHER_PAYMENTS = some ⟨.type "dict", none, .dict es_OTHER_PAYMENTS en_OTHER_PAYMENTS, #[]⟩)
    (kl_OTHER_PAYMENTS : PySem.W.KeysLit w.params es_OTHER_PAYMENTS.toList)
    (nk_OTHER_PAYMENTS_0 : PySem.W.nsIn K A_OTHER_PAYMENTS "pay" = some (some (.str "take" tk_OTHER_PAYMENTS_0)))
    (nk_OTHER_PAYMENTS_1 : PySem.W.nsIn K A_OTHER_PAYMENTS "take" = some (some (.str "pay" tk_OTHER_PAYMENTS_1)))
    (ac_OTHER_SEATS : PySem.W.nsIn K mainGlobals "OTHER_SEATS" = some (some (.ref A_OTHER_SEATS)))
    (lk_OTHER_SEATS : K.lookup A_OTHER_SEATS = some ⟨.type "tuple", none, .seq #[.int 0 tk_OTHER_SEATS_0, .int 2 tk_OTHER_SEATS_1, .int 1 tk_OTHER_SEATS_2] tr_OTHER_SEATS, tu_OTHER_SEATS⟩)
    (a1 : PySem.W.findIn K (.ref C_Game) "__init__" = some (some (.ref f1)))
    (i1 : PySem.W.isFn K (.ref f1) = true)
    (l1 : K.lookup f1 = some ⟨oc1, od1, .func (PySem.W.fnOf "__init__" "Game.__init__" (defArgs s_Game_init) (defBody s_Game_init) (defScope s_Game_init) .none kV1 dc1 pm1 an1 cd1 ct1), sl1⟩)
    (c1 : PySem.W.codeIn K cd1 "Game.__init__" = true)
    (k1 : PySem.W.keepIn K (.ref f1) = true)
    (a2 : PySem.W.findIn K (.ref C_Numbering) "__init__" = some (some (.ref f2)))
    (i2 : PySem.W.isFn K (.ref f2) = true)
    (l2 : K.lookup f2 = some ⟨oc2, od2, .func (PySem.W.fnOf "__init__" "Numbering.__init__" (defArgs s_Numbering_init) (defBody s_Numbering_init) (defScope s_Numbering_init) .none kV2 dc2 pm2 an2 cd2 ct2), sl2⟩)
    (c2 : PySem.W.codeIn K cd2 "Numbering.__init__" = true)
    (k2 : PySem.W.keepIn K (.ref f2) = true)
    (a3 : PySem.W.findIn K (.ref C_Game) "__eq__" = some (some (.ref f3)))
    (i3 : PySem.W.isFn K (.ref f3) = true)
    (l3 : K.lookup f3 = some ⟨oc3, od3, .func (PySem.W.fnOf "__eq__" "Game.__eq__" (defArgs s_Game_eq) (defBody s_Game_eq) (defScope s_Game_eq) .none kV3 dc3 pm3 an3 cd3 ct3), sl3⟩)
    (c3 : PySem.W.codeIn K cd3 "Game.__eq__" = true)
    (k3 : PySem.W.keepIn K (.ref f3) = true)
    (a4 : PySem.W.nsIn K mainGlobals "_swapped_statement" = some (some (.ref f4)))
    (l4 : K.lookup f4 = some ⟨oc4, od4, .func (PySem.W.fnOf "_swapped_statement" "_swapped_statement" (defArgs s_swapped_statement) (defBody s_swapped_statement) (defScope s_swapped_statement) .none kV4 dc4 pm4 an4 cd4 ct4), sl4⟩)
    (c4 : PySem.W.codeIn K cd4 "_swapped_statement" = true)
    (k4 : PySem.W.keepIn K (.ref f4) = true)
    (a5 : PySem.W.nsIn K mainGlobals "_swapped_block" = some (some (.ref f5)))
    (l5 : K.lookup f5 = some ⟨oc5, od5, .func (PySem.W.fnOf "_swapped_block" "_swapped_block" (defArgs s_swapped_block) (defBody s_swapped_block) (defScope s_swapped_block) .none kV5 dc5 pm5 an5 cd5 ct5), sl5⟩)
    (c5 : PySem.W.codeIn K cd5 "_swapped_block" = true)
    (k5 : PySem.W.keepIn K (.ref f5) = true)
    (a6 : PySem.W.nsIn K mainGlobals "swapped" = some (some (.ref f6)))
    (l6 : K.lookup f6 = some ⟨oc6, od6, .func (PySem.W.fnOf "swapped" "swapped" (defArgs s_swapped) (defBody s_swapped) (defScope s_swapped) .none kV6 dc6 pm6 an6 cd6 ct6), sl6⟩)
    (c6 : PySem.W.codeIn K cd6 "swapped" = true)
    (k6 : PySem.W.keepIn K (.ref f6) = true)
    (a7 : PySem.W.findIn K (.ref C_Numbering) "_statement" = some (some (.ref f7)))
    (i7 : PySem.W.isFn K (.ref f7) = true)
    (l7 : K.lookup f7 = some ⟨oc7, od7, .func (PySem.W.fnOf "_statement" "Numbering._statement" (defArgs s_Numbering_statement) (defBody s_Numbering_statement) (defScope s_Numbering_statement) .none kV7 dc7 pm7 an7 cd7 ct7), sl7⟩)
    (c7 : PySem.W.codeIn K cd7 "Numbering._statement" = true)
    (k7 : PySem.W.keepIn K (.ref f7) = true)
    (a8 : PySem.W.findIn K (.ref C_Numbering) "numbered" = some (some (.ref f8)))
    (i8 : PySem.W.isFn K (.ref f8) = true)
    (l8 : K.lookup f8 = some ⟨oc8, od8, .func (PySem.W.fnOf "numbered" "Numbering.numbered" (defArgs s_Numbering_numbered) (defBody s_Numbering_numbered) (defScope s_Numbering_numbered) .none kV8 dc8 pm8 an8 cd8 ct8), sl8⟩)
    (c8 : PySem.W.codeIn K cd8 "Numbering.numbered" = true)
    (k8 : PySem.W.keepIn K (.ref f8) = true)
    (a9 : PySem.W.nsIn K mainGlobals "before" = some (some (.ref f9)))
    (l9 : K.lookup f9 = some ⟨oc9, od9, .func (PySem.W.fnOf "before" "before" (defArgs s_before) (defBody s_before) (defScope s_before) .none kV9 dc9 pm9 an9 cd9 ct9), sl9⟩)
    (c9 : PySem.W.codeIn K cd9 "before" = true)
    (k9 : PySem.W.keepIn K (.ref f9) = true)
    (a10 : PySem.W.nsIn K mainGlobals "switched" = some (some (.ref f10)))
    (l10 : K.lookup f10 = some ⟨oc10, od10, .func (PySem.W.fnOf "switched" "switched" (defArgs s_switched) (defBody s_switched) (defScope s_switched) .none kV10 dc10 pm10 an10 cd10 ct10), sl10⟩)
    (c10 : PySem.W.codeIn K cd10 "switched" = true)
    (k10 : PySem.W.keepIn K (.ref f10) = true)
    (a11 : PySem.W.nsIn K mainGlobals "_law_pool" = some (some (.ref f11)))
    (l11 : K.lookup f11 = some ⟨oc11, od11, .func (PySem.W.fnOf "_law_pool" "_law_pool" (defArgs s_law_pool) (defBody s_law_pool) (defScope s_law_pool) .none kV11 dc11 pm11 an11 cd11 ct11), sl11⟩)
    (c11 : PySem.W.codeIn K cd11 "_law_pool" = true)
    (k11 : PySem.W.keepIn K (.ref f11) = true)
    (a12 : PySem.W.nsIn K mainGlobals "_law_draw" = some (some (.ref f12)))
    (l12 : K.lookup f12 = some ⟨oc12, od12, .func (PySem.W.fnOf "_law_draw" "_law_draw" (defArgs s_law_draw) (defBody s_law_draw) (defScope s_law_draw) .none kV12 dc12 pm12 an12 cd12 ct12), sl12⟩)
    (c12 : PySem.W.codeIn K cd12 "_law_draw" = true)
    (k12 : PySem.W.keepIn K (.ref f12) = true)
    (a13 : PySem.W.nsIn K mainGlobals "_law_spend" = some (some (.ref f13)))
    (l13 : K.lookup f13 = some ⟨oc13, od13, .func (PySem.W.fnOf "_law_spend" "_law_spend" (defArgs s_law_spend) (defBody s_law_spend) (defScope s_law_spend) .none kV13 dc13 pm13 an13 cd13 ct13), sl13⟩)
    (c13 : PySem.W.codeIn K cd13 "_law_spend" = true)
    (k13 : PySem.W.keepIn K (.ref f13) = true)
    (a14 : PySem.W.nsIn K mainGlobals "_law_few" = some (some (.ref f14)))
    (l14 : K.lookup f14 = some ⟨oc14, od14, .func (PySem.W.fnOf "_law_few" "_law_few" (defArgs s_law_few) (defBody s_law_few) (defScope s_law_few) .none kV14 dc14 pm14 an14 cd14 ct14), sl14⟩)
    (c14 : PySem.W.codeIn K cd14 "_law_few" = true)
    (k14 : PySem.W.keepIn K (.ref f14) = true)
    (a15 : PySem.W.nsIn K mainGlobals "_law_number" = some (some (.ref f15)))
    (l15 : K.lookup f15 = some ⟨oc15, od15, .func (PySem.W.fnOf "_law_number" "_law_number" (defArgs s_law_number) (defBody s_law_number) (defScope s_law_number) .none kV15 dc15 pm15 an15 cd15 ct15), sl15⟩)
    (c15 : PySem.W.codeIn K cd15 "_law_number" = true)
    (k15 : PySem.W.keepIn K (.ref f15) = true)
    (a16 : PySem.W.nsIn K mainGlobals "_law_same" = some (some (.ref f16)))
    (l16 : K.lookup f16 = some ⟨oc16, od16, .func (PySem.W.fnOf "_law_same" "_law_same" (defArgs s_law_same) (defBody s_law_same) (defScope s_law_same) .none kV16 dc16 pm16 an16 cd16 ct16), sl16⟩)
    (c16 : PySem.W.codeIn K cd16 "_law_same" = true)
    (k16 : PySem.W.keepIn K (.ref f16) = true)
    (a17 : PySem.W.nsIn K mainGlobals "_law_keys" = some (some (.ref f17)))
    (l17 : K.lookup f17 = some ⟨oc17, od17, .func (PySem.W.fnOf "_law_keys" "_law_keys" (defArgs s_law_keys) (defBody s_law_keys) (defScope s_law_keys) .none kV17 dc17 pm17 an17 cd17 ct17), sl17⟩)
    (c17 : PySem.W.codeIn K cd17 "_law_keys" = true)
    (k17 : PySem.W.keepIn K (.ref f17) = true)
    (a18 : PySem.W.nsIn K mainGlobals "_law_name" = some (some (.ref f18)))
    (l18 : K.lookup f18 = some ⟨oc18, od18, .func (PySem.W.fnOf "_law_name" "_law_name" (defArgs s_law_name) (defBody s_law_name) (defScope s_law_name) .none kV18 dc18 pm18 an18 cd18 ct18), sl18⟩)
    (c18 : PySem.W.codeIn K cd18 "_law_name" = true)
    (k18 : PySem.W.keepIn K (.ref f18) = true)
    (a19 : PySem.W.nsIn K mainGlobals "_law_expression" = some (some (.ref f19)))
    (l19 : K.lookup f19 = some ⟨oc19, od19, .func (PySem.W.fnOf "_law_expression" "_law_expression" (defArgs s_law_expression) (defBody s_law_expression) (defScope s_law_expression) .none kV19 dc19 pm19 an19 cd19 ct19), sl19⟩)
    (c19 : PySem.W.codeIn K cd19 "_law_expression" = true)
    (k19 : PySem.W.keepIn K (.ref f19) = true)
    (a20 : PySem.W.nsIn K mainGlobals "_law_statement" = some (some (.ref f20)))
    (l20 : K.lookup f20 = some ⟨oc20, od20, .func (PySem.W.fnOf "_law_statement" "_law_statement" (defArgs s_law_statement) (defBody s_law_statement) (defScope s_law_statement) .none kV20 dc20 pm20 an20 cd20 ct20), sl20⟩)
    (c20 : PySem.W.codeIn K cd20 "_law_statement" = true)
    (k20 : PySem.W.keepIn K (.ref f20) = true)
    (a21 : PySem.W.nsIn K mainGlobals "_law_block" = some (some (.ref f21)))
    (l21 : K.lookup f21 = some ⟨oc21, od21, .func (PySem.W.fnOf "_law_block" "_law_block" (defArgs s_law_block) (defBody s_law_block) (defScope s_law_block) .none kV21 dc21 pm21 an21 cd21 ct21), sl21⟩)
    (c21 : PySem.W.codeIn K cd21 "_law_block" = true)
    (k21 : PySem.W.keepIn K (.ref f21) = true)
    (a22 : PySem.W.nsIn K mainGlobals "_law_game" = some (some (.ref f22)))
    (l22 : K.lookup f22 = some ⟨oc22, od22, .func (PySem.W.fnOf "_law_game" "_law_game" (defArgs s_law_game) (defBody s_law_game) (defScope s_law_game) .none kV22 dc22 pm22 an22 cd22 ct22), sl22⟩)
    (c22 : PySem.W.codeIn K cd22 "_law_game" = true)
    (k22 : PySem.W.keepIn K (.ref f22) = true)
    (a23 : PySem.W.nsIn K mainGlobals "_law_turned" = some (some (.ref f23)))
    (l23 : K.lookup f23 = some ⟨oc23, od23, .func (PySem.W.fnOf "_law_turned" "_law_turned" (defArgs s_law_turned) (defBody s_law_turned) (defScope s_law_turned) .none kV23 dc23 pm23 an23 cd23 ct23), sl23⟩)
    (c23 : PySem.W.codeIn K cd23 "_law_turned" = true)
    (k23 : PySem.W.keepIn K (.ref f23) = true)
    (a24 : PySem.W.nsIn K mainGlobals "_law_later" = some (some (.ref f24)))
    (l24 : K.lookup f24 = some ⟨oc24, od24, .func (PySem.W.fnOf "_law_later" "_law_later" (defArgs s_law_later) (defBody s_law_later) (defScope s_law_later) .none kV24 dc24 pm24 an24 cd24 ct24), sl24⟩)
    (c24 : PySem.W.codeIn K cd24 "_law_later" = true)
    (k24 : PySem.W.keepIn K (.ref f24) = true)
    (a25 : PySem.W.nsIn K mainGlobals "_law_is" = some (some (.ref f25)))
    (l25 : K.lookup f25 = some ⟨oc25, od25, .func (PySem.W.fnOf "_law_is" "_law_is" (defArgs s_law_is) (defBody s_law_is) (defScope s_law_is) .none kV25 dc25 pm25 an25 cd25 ct25), sl25⟩)
    (c25 : PySem.W.codeIn K cd25 "_law_is" = true)
    (k25 : PySem.W.keepIn K (.ref f25) = true)
    (a26 : PySem.W.nsIn K mainGlobals "_law_switches" = some (some (.ref f26)))
    (l26 : K.lookup f26 = some ⟨oc26, od26, .func (PySem.W.fnOf "_law_switches" "_law_switches" (defArgs s_law_switches) (defBody s_law_switches) (defScope s_law_switches) .none kV26 dc26 pm26 an26 cd26 ct26), sl26⟩)
    (c26 : PySem.W.codeIn K cd26 "_law_switches" = true)
    (k26 : PySem.W.keepIn K (.ref f26) = true)
    (a27 : PySem.W.nsIn K mainGlobals "_law_joins" = some (some (.ref f27)))
    (l27 : K.lookup f27 = some ⟨oc27, od27, .func (PySem.W.fnOf "_law_joins" "_law_joins" (defArgs s_law_joins) (defBody s_law_joins) (defScope s_law_joins) .none kV27 dc27 pm27 an27 cd27 ct27), sl27⟩)
    (c27 : PySem.W.codeIn K cd27 "_law_joins" = true)
    (k27 : PySem.W.keepIn K (.ref f27) = true)
    (a28 : PySem.W.nsIn K mainGlobals "law" = some (some (.ref f28)))
    (l28 : K.lookup f28 = some ⟨oc28, od28, .func (PySem.W.fnOf "law" "law" (defArgs s_law) (defBody s_law) (defScope s_law) .none kV28 dc28 pm28 an28 cd28 ct28), sl28⟩)
    (c28 : PySem.W.codeIn K cd28 "law" = true)
    (k28 : PySem.W.keepIn K (.ref f28) = true)
    (sm_OTHER_PAYMENTS : (A_OTHER_PAYMENTS == sysModules) = false)
    (kn_set : PySem.W.nsIn K A_OTHER_PAYMENTS "set" = some none)
    (kn_draw : PySem.W.nsIn K A_OTHER_PAYMENTS "draw" = some none)
    (z_any : PySem.W.nsIn K mainGlobals "any" = some none)
    (z_bool : PySem.W.nsIn K mainGlobals "bool" = some none)
    (z_enumerate : PySem.W.nsIn K mainGlobals "enumerate" = some none)
    (z_int : PySem.W.nsIn K mainGlobals "int" = some none)
    (z_isinstance : PySem.W.nsIn K mainGlobals "isinstance" = some none)
    (z_len : PySem.W.nsIn K mainGlobals "len" = some none)
    (z_list : PySem.W.nsIn K mainGlobals "list" = some none)
    (z_min : PySem.W.nsIn K mainGlobals "min" = some none)
    (z_range : PySem.W.nsIn K mainGlobals "range" = some none)
    (z_str : PySem.W.nsIn K mainGlobals "str" = some none)
    (z_tuple : PySem.W.nsIn K mainGlobals "tuple" = some none) :
    ∃ fd : FuncData, (∀ (s : Shared) (v : Value), BindsTo s fd ⟨[v], []⟩ [("script", v)]) ∧ ∀ base : Heap, K.In base → base.Ns mainGlobals mg → FnOk l.prog w K mg base CX0 43 fa fd ["script"] (spLaw K) := by
  have e := hfa.symm.trans (PySem.W.mg_of X G a28)
  cases e
  let T : Txt K mg w := { C_Game := C_Game, m_Game := PySem.W.mg_of X G ac_Game, cl_Game := ⟨pg_Game, hd_Game, po_Game, sa_Game⟩, n_Game_options := na_Game_options, n_Game_variables := na_Game_variables, n_Game_rounds := na_Game_rounds, ic_Game := ⟨⟨pg_Game, hd_Game, po_Game, sa_Game⟩, xa_Game, xn_Game, xt_Game, xm_Game, (by unfold PySem.W.kitOne; simp)⟩, C_Numbering := C_Numbering, m_Numbering := PySem.W.mg_of X G ac_Numbering, cl_Numbering := ⟨pg_Numbering, hd_Numbering, po_Numbering, sa_Numbering⟩, n_Numbering__count := na_Numbering__count, C_GameError := C_GameError, m_GameError := PySem.W.mg_of X G ac_GameError, C_BadEdit := C_BadEdit, a_BadEdit_init := fe_BadEdit, d_BadEdit_init := _, m_BadEdit := PySem.W.mg_of X G ac_BadEdit, e_BadEdit := ⟨⟨⟨_, _, _, _, _, _, _, _, _, _, _, _, _, _, _, xl_BadEdit, rfl⟩, esa_BadEdit, exc_BadEdit, ety_BadEdit, ekp_BadEdit⟩, ⟨ega_BadEdit, egg_BadEdit, exc_BadEdit, ehd_BadEdit⟩, eno_BadEdit, ein_BadEdit, eit_BadEdit, ⟨_, _, _, _, _, _, _, _, _, _, _, _, _, _, _, _, _, _, rfl, elk_BadEdit, ecd_BadEdit, eco_BadEdit, evs_BadEdit, ecc_BadEdit, esu_BadEdit, evb_BadEdit, emr_BadEdit, opq⟩⟩, b_BadEdit_init := .all (fun us hl => match us, hl with | [_, _], _ => rfl), t_BadEdit := exm_self exc_BadEdit eic_BadEdit ety_BadEdit ess_BadEdit, i_BadEdit := ⟨eha_BadEdit, ehn, eht, ehm_BadEdit⟩, kv_BadEdit := kit_val evb_BadEdit, kk_BadEdit_BadEdit := kit_own ess_BadEdit eic_BadEdit ety_BadEdit ess_BadEdit, t_BadEdit_GameError := exm_sup re_GameError ri_GameError ert_GameError_BadEdit esr_GameError_BadEdit, kk_BadEdit_GameError := kit_own esr_GameError_BadEdit ri_GameError ert_GameError_BadEdit ess_BadEdit, z_super := PySem.W.mg_none_of X G z_super, A_OTHER_PAYMENTS := A_OTHER_PAYMENTS, g_OTHER_PAYMENTS := PySem.W.mg_of X G ac_OTHER_PAYMENTS, kd_OTHER_PAYMENTS_0 := ⟨_, _, _, lk_OTHER_PAYMENTS, kl_OTHER_PAYMENTS, nk_OTHER_PAYMENTS_0, by first | exact ⟨_, rfl⟩ | rfl⟩, kd_OTHER_PAYMENTS_1 := ⟨_, _, _, lk_OTHER_PAYMENTS, kl_OTHER_PAYMENTS, nk_OTHER_PAYMENTS_1, by first | exact ⟨_, rfl⟩ | rfl⟩, A_OTHER_SEATS := A_OTHER_SEATS, g_OTHER_SEATS := PySem.W.mg_of X G ac_OTHER_SEATS, q_OTHER_SEATS := fun H => .inr ⟨_, _, _, lk_OTHER_SEATS, rfl, rfl, by show 3 ≤ sizeLine; decide, (.cons (by first | exact ⟨_, rfl⟩ | rfl) (.cons (by first | exact ⟨_, rfl⟩ | rfl) (.cons (by first | exact ⟨_, rfl⟩ | rfl) .nil)))⟩, qd_OTHER_SEATS := ⟨_, lk_OTHER_SEATS, rfl, rfl⟩, a_Game_init := f1, d_Game_init := _, F_Game_init := fun_mk (st := s_Game_init) l1 c1 k1, b_Game_init := (fun_mk (st := s_Game_init) l1 c1 k1).binds (ps := ["self", "options", "variables", "rounds"]) (fun _ _ _ _ _ _ us hl => match us, hl with | [_, _, _, _], _ => rfl), mk_Game := ⟨mkc_Game, a1, i1, kpc_Game⟩, a_Numbering_init := f2, d_Numbering_init := _, F_Numbering_init := fun_mk (st := s_Numbering_init) l2 c2 k2, b_Numbering_init := (fun_mk (st := s_Numbering_init) l2 c2 k2).binds (ps := ["self"]) (fun _ _ _ _ _ _ us hl => match us, hl with | [_], _ => rfl), mk_Numbering := ⟨mkc_Numbering, a2, i2, kpc_Numbering⟩, a_Game_eq := f3, d_Game_eq := _, F_Game_eq := fun_mk (st := s_Game_eq) l3 c3 k3, b_Game_eq := (fun_mk (st := s_Game_eq) l3 c3 k3).binds (ps := ["self", "other"]) (fun _ _ _ _ _ _ us hl => match us, hl with | [_, _], _ => rfl), me_Game_eq := ⟨a3, i3, k3⟩, a_swapped_statement := f4, d_swapped_statement := _, F_swapped_statement := fun_mk (st := s_swapped_statement) l4 c4 k4, b_swapped_statement := (fun_mk (st := s_swapped_statement) l4 c4 k4).binds (ps := ["statement"]) (fun _ _ _ _ _ _ us hl => match us, hl with | [_], _ => rfl), m_swapped_statement := PySem.W.mg_of X G a4, a_swapped_block := f5, d_swapped_block := _, F_swapped_block := fun_mk (st := s_swapped_block) l5 c5 k5, b_swapped_block := (fun_mk (st := s_swapped_block) l5 c5 k5).binds (ps := ["block"]) (fun _ _ _ _ _ _ us hl => match us, hl with | [_], _ => rfl), m_swapped_block := PySem.W.mg_of X G a5, a_swapped := f6, d_swapped := _, F_swapped := fun_mk (st := s_swapped) l6 c6 k6, b_swapped := (fun_mk (st := s_swapped) l6 c6 k6).binds (ps := ["game"]) (fun _ _ _ _ _ _ us hl => match us, hl with | [_], _ => rfl), m_swapped := PySem.W.mg_of X G a6, a_Numbering_statement := f7, d_Numbering_statement := _, F_Numbering_statement := fun_mk (st := s_Numbering_statement) l7 c7 k7, b_Numbering_statement := (fun_mk (st := s_Numbering_statement) l7 c7 k7).binds (ps := ["self", "statement"]) (fun _ _ _ _ _ _ us hl => match us, hl with | [_, _], _ => rfl), me_Numbering_statement := ⟨a7, i7, k7⟩, a_Numbering_numbered := f8, d_Numbering_numbered := _, F_Numbering_numbered := fun_mk (st := s_Numbering_numbered) l8 c8 k8, b_Numbering_numbered := (fun_mk (st := s_Numbering_numbered) l8 c8 k8).binds (ps := ["self", "block"]) (fun _ _ _ _ _ _ us hl => match us, hl with | [_, _], _ => rfl), me_Numbering_numbered := ⟨a8, i8, k8⟩, a_before := f9, d_before := _, F_before := fun_mk (st := s_before) l9 c9 k9, b_before := (fun_mk (st := s_before) l9 c9 k9).binds (ps := ["game", "other"]) (fun _ _ _ _ _ _ us hl => match us, hl with | [_, _], _ => rfl), m_before := PySem.W.mg_of X G a9, a_switched := f10, d_switched := _, F_switched := fun_mk (st := s_switched) l10 c10 k10, b_switched := (fun_mk (st := s_switched) l10 c10 k10).binds (ps := ["game", "names"]) (fun _ _ _ _ _ _ us hl => match us, hl with | [_, _], _ => rfl), m_switched := PySem.W.mg_of X G a10, a_law_pool := f11, d_law_pool := _, F_law_pool := fun_mk (st := s_law_pool) l11 c11 k11, b_law_pool := (fun_mk (st := s_law_pool) l11 c11 k11).binds (ps := ["script", "budget"]) (fun _ _ _ _ _ _ us hl => match us, hl with | [_, _], _ => rfl), m_law_pool := PySem.W.mg_of X G a11, a_law_draw := f12, d_law_draw := _, F_law_draw := fun_mk (st := s_law_draw) l12 c12 k12, b_law_draw := (fun_mk (st := s_law_draw) l12 c12 k12).binds (ps := ["pool", "size"]) (fun _ _ _ _ _ _ us hl => match us, hl with | [_, _], _ => rfl), m_law_draw := PySem.W.mg_of X G a12, a_law_spend := f13, d_law_spend := _, F_law_spend := fun_mk (st := s_law_spend) l13 c13 k13, b_law_spend := (fun_mk (st := s_law_spend) l13 c13 k13).binds (ps := ["pool"]) (fun _ _ _ _ _ _ us hl => match us, hl with | [_], _ => rfl), m_law_spend := PySem.W.mg_of X G a13, a_law_few := f14, d_law_few := _, F_law_few := fun_mk (st := s_law_few) l14 c14 k14, b_law_few := (fun_mk (st := s_law_few) l14 c14 k14).binds (ps := ["pool", "most"]) (fun _ _ _ _ _ _ us hl => match us, hl with | [_, _], _ => rfl), m_law_few := PySem.W.mg_of X G a14, a_law_number := f15, d_law_number := _, F_law_number := fun_mk (st := s_law_number) l15 c15 k15, b_law_number := (fun_mk (st := s_law_number) l15 c15 k15).binds (ps := ["pool"]) (fun _ _ _ _ _ _ us hl => match us, hl with | [_], _ => rfl), m_law_number := PySem.W.mg_of X G a15, a_law_same := f16, d_law_same := _, F_law_same := fun_mk (st := s_law_same) l16 c16 k16, b_law_same := (fun_mk (st := s_law_same) l16 c16 k16).binds (ps := ["actual", "due"]) (fun _ _ _ _ _ _ us hl => match us, hl with | [_, _], _ => rfl), m_law_same := PySem.W.mg_of X G a16, a_law_keys := f17, d_law_keys := _, F_law_keys := fun_mk (st := s_law_keys) l17 c17 k17, b_law_keys := (fun_mk (st := s_law_keys) l17 c17 k17).binds (ps := []) (fun _ _ _ _ _ _ us hl => match us, hl with | [], _ => rfl), m_law_keys := PySem.W.mg_of X G a17, a_law_name := f18, d_law_name := _, F_law_name := fun_mk (st := s_law_name) l18 c18 k18, b_law_name := (fun_mk (st := s_law_name) l18 c18 k18).binds (ps := ["pool", "taken"]) (fun _ _ _ _ _ _ us hl => match us, hl with | [_, _], _ => rfl), m_law_name := PySem.W.mg_of X G a18, a_law_expression := f19, d_law_expression := _, F_law_expression := fun_mk (st := s_law_expression) l19 c19 k19, b_law_expression := (fun_mk (st := s_law_expression) l19 c19 k19).binds (ps := ["pool", "names", "picks", "deep"]) (fun _ _ _ _ _ _ us hl => match us, hl with | [_, _, _, _], _ => rfl), m_law_expression := PySem.W.mg_of X G a19, a_law_statement := f20, d_law_statement := _, F_law_statement := fun_mk (st := s_law_statement) l20 c20 k20, b_law_statement := (fun_mk (st := s_law_statement) l20 c20 k20).binds (ps := ["pool", "names", "picks", "deep", "state"]) (fun _ _ _ _ _ _ us hl => match us, hl with | [_, _, _, _, _], _ => rfl), m_law_statement := PySem.W.mg_of X G a20, a_law_block := f21, d_law_block := _, F_law_block := fun_mk (st := s_law_block) l21 c21 k21, b_law_block := (fun_mk (st := s_law_block) l21 c21 k21).binds (ps := ["pool", "names", "picks", "deep", "state"]) (fun _ _ _ _ _ _ us hl => match us, hl with | [_, _, _, _, _], _ => rfl), m_law_block := PySem.W.mg_of X G a21, a_law_game := f22, d_law_game := _, F_law_game := fun_mk (st := s_law_game) l22 c22 k22, b_law_game := (fun_mk (st := s_law_game) l22 c22 k22).binds (ps := ["pool", "names"]) (fun _ _ _ _ _ _ us hl => match us, hl with | [_, _], _ => rfl), m_law_game := PySem.W.mg_of X G a22, a_law_turned := f23, d_law_turned := _, F_law_turned := fun_mk (st := s_law_turned) l23 c23 k23, b_law_turned := (fun_mk (st := s_law_turned) l23 c23 k23).binds (ps := ["block"]) (fun _ _ _ _ _ _ us hl => match us, hl with | [_], _ => rfl), m_law_turned := PySem.W.mg_of X G a23, a_law_later := f24, d_law_later := _, F_law_later := fun_mk (st := s_law_later) l24 c24 k24, b_law_later := (fun_mk (st := s_law_later) l24 c24 k24).binds (ps := ["block", "count"]) (fun _ _ _ _ _ _ us hl => match us, hl with | [_, _], _ => rfl), m_law_later := PySem.W.mg_of X G a24, a_law_is := f25, d_law_is := _, F_law_is := fun_mk (st := s_law_is) l25 c25 k25, b_law_is := (fun_mk (st := s_law_is) l25 c25 k25).binds (ps := ["game", "due"]) (fun _ _ _ _ _ _ us hl => match us, hl with | [_, _], _ => rfl), m_law_is := PySem.W.mg_of X G a25, a_law_switches := f26, d_law_switches := _, F_law_switches := fun_mk (st := s_law_switches) l26 c26 k26, b_law_switches := (fun_mk (st := s_law_switches) l26 c26 k26).binds (ps := ["game", "made", "names"]) (fun _ _ _ _ _ _ us hl => match us, hl with | [_, _, _], _ => rfl), m_law_switches := PySem.W.mg_of X G a26, a_law_joins := f27, d_law_joins := _, F_law_joins := fun_mk (st := s_law_joins) l27 c27 k27, b_law_joins := (fun_mk (st := s_law_joins) l27 c27 k27).binds (ps := ["one", "other", "made"]) (fun _ _ _ _ _ _ us hl => match us, hl with | [_, _, _], _ => rfl), m_law_joins := PySem.W.mg_of X G a27, a_law := fa, d_law := _, F_law := fun_mk (st := s_law) l28 c28 k28, b_law := (fun_mk (st := s_law) l28 c28 k28).binds (ps := ["script"]) (fun _ _ _ _ _ _ us hl => match us, hl with | [_], _ => rfl), m_law := PySem.W.mg_of X G a28, sm_OTHER_PAYMENTS := sm_OTHER_PAYMENTS, kn_set := ⟨_, _, lk_OTHER_PAYMENTS, kl_OTHER_PAYMENTS, kn_set⟩, kn_draw := ⟨_, _, lk_OTHER_PAYMENTS, kl_OTHER_PAYMENTS, kn_draw⟩, z_any := PySem.W.mg_none_of X G z_any, z_bool := PySem.W.mg_none_of X G z_bool, z_enumerate := PySem.W.mg_none_of X G z_enumerate, z_int := PySem.W.mg_none_of X G z_int, z_isinstance := PySem.W.mg_none_of X G z_isinstance, z_len := PySem.W.mg_none_of X G z_len, z_list := PySem.W.mg_none_of X G z_list, z_min := PySem.W.mg_none_of X G z_min, z_range := PySem.W.mg_none_of X G z_range, z_str := PySem.W.mg_none_of X G z_str, z_tuple := PySem.W.mg_none_of X G z_tuple }
  exact ⟨T.d_law, fun s v => .of_eq rfl, fun base _ _ => ok_law T⟩
end Own
open PySem PySem.W PyProof.Rows
set_option maxHeartbeats 0 in
theorem PySem.Challenge.cw_sureplay_k98_composed_games_with_branche_holds : PySem.Challenge.rw_sureplay_k98_composed_games_with_branche.Holds := by
  w_on; o_law; k_head; (case hw => w_witness2)
  k_fill
  refine L2.walk_of (l := PySem.Challenge.rw_sureplay_k98_composed_games_with_branche) (n := 63) (k := 43) (x := "script") (CX := fun _ => L2.CX0) (sp := fun w => Own.spLaw _) rfl (by decide) rfl ⟨rfl, by decide, by decide⟩ (fun w h Y => PySem.W.kIn_of Y) ?F (fun _ _ a ns hl _ hS => ⟨a, ns, rfl, hS, hl, fun _ => rfl⟩) (fun _ _ _ _ _ h => h)
  case F =>
    intro w mg fa h KX G hmg
    haveI pro : Own.PrOk PySem.Challenge.rw_sureplay_k98_composed_games_with_branche.prog := ⟨by decide +kernel, by decide +kernel⟩
    refine' Own.all_mk KX G hmg ?ac_Game ?pg_Game ?hd_Game ?po_Game ?sa_Game ?mkc_Game ?kpc_Game ?na_Game_options ?na_Game_variables ?na_Game_rounds ?xa_Game ?xn_Game ?xt_Game ?xm_Game ?ac_Numbering ?pg_Numbering ?hd_Numbering ?po_Numbering ?sa_Numbering ?mkc_Numbering ?kpc_Numbering ?na_Numbering__count ?ac_GameError ?re_GameError ?ri_GameError ?ac_BadEdit ?xl_BadEdit ?esa_BadEdit ?exc_BadEdit ?ety_BadEdit ?ekp_BadEdit ?ega_BadEdit ?egg_BadEdit ?ehd_BadEdit ?eno_BadEdit ?ein_BadEdit ?eit_BadEdit ?eic_BadEdit ?ess_BadEdit ?elk_BadEdit ?ecd_BadEdit ?eco_BadEdit ?evs_BadEdit ?ecc_BadEdit ?esu_BadEdit ?evb_BadEdit ?emr_BadEdit ?eha_BadEdit ?ehm_BadEdit ?esr_GameError_BadEdit ?ert_GameError_BadEdit ?ehn ?eht ?opq ?z_super ?ac_OTHER_PAYMENTS ?lk_OTHER_PAYMENTS ?kl_OTHER_PAYMENTS ?nk_OTHER_PAYMENTS_0 ?nk_OTHER_PAYMENTS_1 ?ac_OTHER_SEATS ?lk_OTHER_SEATS ?a1 ?i1 ?l1 ?c1 ?k1 ?a2 ?i2 ?l2 ?c2 ?k2 ?a3 ?i3 ?l3 ?c3 ?k3 ?a4 ?l4 ?c4 ?k4 ?a5 ?l5 ?c5 ?k5 ?a6 ?l6 ?c6 ?k6 ?a7 ?i7 ?l7 ?c7 ?k7 ?a8 ?i8 ?l8 ?c8 ?k8 ?a9 ?l9 ?c9 ?k9 ?a10 ?l10 ?c10 ?k10 ?a11 ?l11 ?c11 ?k11 ?a12 ?l12 ?c12 ?k12 ?a13 ?l13 ?c13 ?k13 ?a14 ?l14 ?c14 ?k14 ?a15 ?l15 ?c15 ?k15 ?a16 ?l16 ?c16 ?k16 ?a17 ?l17 ?c17 ?k17 ?a18 ?l18 ?c18 ?k18 ?a19 ?l19 ?c19 ?k19 ?a20 ?l20 ?c20 ?k20 ?a21 ?l21 ?c21 ?k21 ?a22 ?l22 ?c22 ?k22 ?a23 ?l23 ?c23 ?k23 ?a24 ?l24 ?c24 ?k24 ?a25 ?l25 ?c25 ?k25 ?a26 ?l26 ?c26 ?k26 ?a27 ?l27 ?c27 ?k27 ?a28 ?l28 ?c28 ?k28 ?sm_OTHER_PAYMENTS ?kn_set ?kn_draw ?z_any ?z_bool ?z_enumerate ?z_int ?z_isinstance ?z_len ?z_list ?z_min ?z_range ?z_str ?z_tuple
    (case ac_Game => k_is)
    (case ac_Numbering => k_is)
    (case ac_GameError => k_is)
    (case ac_BadEdit => k_is)
    (case ac_OTHER_PAYMENTS => k_is)
    (case ac_OTHER_SEATS => k_is)
    (case pg_Game => k_is)
    (case hd_Game => k_is)
    (case po_Game => k_is)
    (case sa_Game => k_is)
    (case mkc_Game => k_is)
    (case kpc_Game => k_is)
    (case na_Game_options => k_is)
    (case na_Game_variables => k_is)
    (case na_Game_rounds => k_is)
    (case xa_Game => k_is)
    (case xn_Game => k_is)
    (case xt_Game => k_is)
    (case xm_Game => k_is)
    (case pg_Numbering => k_is)
    (case hd_Numbering => k_is)
    (case po_Numbering => k_is)
    (case sa_Numbering => k_is)
    (case mkc_Numbering => k_is)
    (case kpc_Numbering => k_is)
    (case na_Numbering__count => k_is)
    (case re_GameError => k_is)
    (case ri_GameError => k_is)
    (case xl_BadEdit => k_is)
    (case esa_BadEdit => k_is)
    (case exc_BadEdit => k_is)
    (case ety_BadEdit => k_is)
    (case ekp_BadEdit => k_is)
    (case ega_BadEdit => k_is)
    (case egg_BadEdit => k_is)
    (case ehd_BadEdit => k_is)
    (case eno_BadEdit => k_is)
    (case ein_BadEdit => k_is)
    (case eit_BadEdit => k_is)
    (case eic_BadEdit => k_is)
    (case ess_BadEdit => first | rfl | k_is)
    (case elk_BadEdit => k_is)
    (case ecd_BadEdit => k_is)
    (case eco_BadEdit => k_is)
    (case evs_BadEdit => first | rfl | decide +kernel)
    (case ecc_BadEdit => k_is)
    (case esu_BadEdit => ks_is)
    (case evb_BadEdit => k_is)
    (case emr_BadEdit => k_is)
    (case eha_BadEdit => k_is)
    (case ehm_BadEdit => k_is)
    (case esr_GameError_BadEdit => first | rfl | k_is)
    (case ert_GameError_BadEdit => k_is)
    (case ehn => k_is)
    (case eht => k_is)
    (case opq => k_is)
    (case z_super => k_is)
    (case lk_OTHER_PAYMENTS => k_is)
    (case kl_OTHER_PAYMENTS => k_keys)
    (case nk_OTHER_PAYMENTS_0 => k_is)
    (case nk_OTHER_PAYMENTS_1 => k_is)
    (case lk_OTHER_SEATS => k_is)
    (case a1 => k_is)
    (case i1 => k_is)
    (case l1 => k_is)
    (case c1 => k_is)
    (case k1 => k_is)
    (case a2 => k_is)
    (case i2 => k_is)
    (case l2 => k_is)
    (case c2 => k_is)
    (case k2 => k_is)
    (case a3 => k_is)
    (case i3 => k_is)
    (case l3 => k_is)
    (case c3 => k_is)
    (case k3 => k_is)
    (case a4 => k_is)
    (case l4 => k_is)
    (case c4 => k_is)
    (case k4 => k_is)
    (case a5 => k_is)
    (case l5 => k_is)
    (case c5 => k_is)
    (case k5 => k_is)
    (case a6 => k_is)
    (case l6 => k_is)
    (case c6 => k_is)
    (case k6 => k_is)
    (case a7 => k_is)
    (case i7 => k_is)
    (case l7 => k_is)
    (case c7 => k_is)
    (case k7 => k_is)
    (case a8 => k_is)
    (case i8 => k_is)
    (case l8 => k_is)
    (case c8 => k_is)
    (case k8 => k_is)
    (case a9 => k_is)
    (case l9 => k_is)
    (case c9 => k_is)
    (case k9 => k_is)
    (case a10 => k_is)
    (case l10 => k_is)
    (case c10 => k_is)
    (case k10 => k_is)
    (case a11 => k_is)
    (case l11 => k_is)
    (case c11 => k_is)
    (case k11 => k_is)
    (case a12 => k_is)
    (case l12 => k_is)
    (case c12 => k_is)
    (case k12 => k_is)
    (case a13 => k_is)
    (case l13 => k_is)
    (case c13 => k_is)
    (case k13 => k_is)
    (case a14 => k_is)
    (case l14 => k_is)
    (case c14 => k_is)
    (case k14 => k_is)
    (case a15 => k_is)
    (case l15 => k_is)
    (case c15 => k_is)
    (case k15 => k_is)
    (case a16 => k_is)
    (case l16 => k_is)
    (case c16 => k_is)
    (case k16 => k_is)
    (case a17 => k_is)
    (case l17 => k_is)
    (case c17 => k_is)
    (case k17 => k_is)
    (case a18 => k_is)
    (case l18 => k_is)
    (case c18 => k_is)
    (case k18 => k_is)
    (case a19 => k_is)
    (case l19 => k_is)
    (case c19 => k_is)
    (case k19 => k_is)
    (case a20 => k_is)
    (case l20 => k_is)
    (case c20 => k_is)
    (case k20 => k_is)
    (case a21 => k_is)
    (case l21 => k_is)
    (case c21 => k_is)
    (case k21 => k_is)
    (case a22 => k_is)
    (case l22 => k_is)
    (case c22 => k_is)
    (case k22 => k_is)
    (case a23 => k_is)
    (case l23 => k_is)
    (case c23 => k_is)
    (case k23 => k_is)
    (case a24 => k_is)
    (case l24 => k_is)
    (case c24 => k_is)
    (case k24 => k_is)
    (case a25 => k_is)
    (case l25 => k_is)
    (case c25 => k_is)
    (case k25 => k_is)
    (case a26 => k_is)
    (case l26 => k_is)
    (case c26 => k_is)
    (case k26 => k_is)
    (case a27 => k_is)
    (case l27 => k_is)
    (case c27 => k_is)
    (case k27 => k_is)
    (case a28 => k_is)
    (case l28 => k_is)
    (case c28 => k_is)
    (case k28 => k_is)
    (case sm_OTHER_PAYMENTS => first | rfl | decide +kernel)
    (case kn_set => k_is)
    (case kn_draw => k_is)
    (case z_any => k_is)
    (case z_bool => k_is)
    (case z_enumerate => k_is)
    (case z_int => k_is)
    (case z_isinstance => k_is)
    (case z_len => k_is)
    (case z_list => k_is)
    (case z_min => k_is)
    (case z_range => k_is)
    (case z_str => k_is)
    (case z_tuple => k_is)
#print axioms PySem.Challenge.cw_sureplay_k98_composed_games_with_branche_holds
