import PyProof.Rows.All
import Wide.All
import OpenK.AllK
import Wide.FinOn
import HandS.TupAny
import HandS.ForMost
import HandS.IsInst
import HandS.Codes
import HandS.Walk
import HandS.Text
import HandS.StrMore
import HandS.ExcField
import HandS.Exc
import HandS.ExcOwn
import HandS.TryOnly
import HandS.WordsExc
import HandS.CallSlots
import HandS.HotCalls
import HandS.FStr
import HandS.ExcInit
import HandS.Nested
import KE.KExcSuper
import HandS.Property
import HandS.Defaults
import PySem.Challenge.RW_sureplay_k12_places_in_a_list_of_words
set_option Elab.async false
set_option linter.all false
set_option maxRecDepth 100000
set_option maxHeartbeats 4000000
namespace Own
open PySem PySem.Spec PyProof.Rows L2
def topS (i : Nat) : Stmt := PySem.Challenge.pw_sureplay_k12_places_in_a_list_of_words.main.body.getD i (.Pass ⟨0, 0, 0, 0⟩)
abbrev s_Cursor_init : Stmt := (inClass (topS 12) 0)
abbrev N_Cursor_init : List Str := ["self", "words", "options", "variables", "sees"]
theorem sc_Cursor_init : FnScope N_Cursor_init ["self", "words", "options", "variables", "sees"] (defScope s_Cursor_init) := ⟨rfl, rfl, rfl, by decide +kernel, rfl, by decide +kernel, by decide +kernel⟩
abbrev s_is_name : Stmt := (topS 10)
abbrev N_is_name : List Str := ["word", "sign"]
theorem sc_is_name : FnScope N_is_name ["word"] (defScope s_is_name) := ⟨rfl, rfl, rfl, by decide +kernel, rfl, by decide +kernel, by decide +kernel⟩
abbrev s_number_of : Stmt := (topS 11)
abbrev N_number_of : List Str := ["word", "number"]
theorem sc_number_of : FnScope N_number_of ["word"] (defScope s_number_of) := ⟨rfl, rfl, rfl, by decide +kernel, rfl, by decide +kernel, by decide +kernel⟩
abbrev s_Cursor_word : Stmt := (inClass (topS 12) 1)
abbrev N_Cursor_word : List Str := ["self"]
theorem sc_Cursor_word : FnScope N_Cursor_word ["self"] (defScope s_Cursor_word) := ⟨rfl, rfl, rfl, by decide +kernel, rfl, by decide +kernel, by decide +kernel⟩
abbrev s_Cursor_pass_if : Stmt := (inClass (topS 12) 6)
abbrev N_Cursor_pass_if : List Str := ["self", "fits"]
theorem sc_Cursor_pass_if : FnScope N_Cursor_pass_if ["self", "fits"] (defScope s_Cursor_pass_if) := ⟨rfl, rfl, rfl, by decide +kernel, rfl, by decide +kernel, by decide +kernel⟩
abbrev s_Cursor_take_word : Stmt := (inClass (topS 12) 2)
abbrev N_Cursor_take_word : List Str := ["self", "word"]
theorem sc_Cursor_take_word : FnScope N_Cursor_take_word ["self", "word"] (defScope s_Cursor_take_word) := ⟨rfl, rfl, rfl, by decide +kernel, rfl, by decide +kernel, by decide +kernel⟩
abbrev s_Cursor_take_number : Stmt := (inClass (topS 12) 3)
abbrev N_Cursor_take_number : List Str := ["self", "least", "most", "word", "number"]
theorem sc_Cursor_take_number : FnScope N_Cursor_take_number ["self", "least", "most"] (defScope s_Cursor_take_number) := ⟨rfl, rfl, rfl, by decide +kernel, rfl, by decide +kernel, by decide +kernel⟩
abbrev s_Cursor_take_name : Stmt := (inClass (topS 12) 4)
abbrev N_Cursor_take_name : List Str := ["self", "names", "word"]
theorem sc_Cursor_take_name : FnScope N_Cursor_take_name ["self", "names"] (defScope s_Cursor_take_name) := ⟨rfl, rfl, rfl, by decide +kernel, rfl, by decide +kernel, by decide +kernel⟩
abbrev s_Cursor_take_new_name : Stmt := (inClass (topS 12) 5)
abbrev N_Cursor_take_new_name : List Str := ["self", "names", "word"]
theorem sc_Cursor_take_new_name : FnScope N_Cursor_take_new_name ["self", "names"] (defScope s_Cursor_take_new_name) := ⟨rfl, rfl, rfl, by decide +kernel, rfl, by decide +kernel, by decide +kernel⟩
abbrev s_law_pool : Stmt := (topS 14)
abbrev N_law_pool : List Str := ["script", "budget"]
theorem sc_law_pool : FnScope N_law_pool ["script", "budget"] (defScope s_law_pool) := ⟨rfl, rfl, rfl, by decide +kernel, rfl, by decide +kernel, by decide +kernel⟩
abbrev s_law_draw : Stmt := (topS 15)
abbrev N_law_draw : List Str := ["pool", "size", "cell", "value"]
theorem sc_law_draw : FnScope N_law_draw ["pool", "size"] (defScope s_law_draw) := ⟨rfl, rfl, rfl, by decide +kernel, rfl, by decide +kernel, by decide +kernel⟩
abbrev s_law_few : Stmt := (topS 17)
abbrev N_law_few : List Str := ["pool", "most", "few"]
theorem sc_law_few : FnScope N_law_few ["pool", "most"] (defScope s_law_few) := ⟨rfl, rfl, rfl, by decide +kernel, rfl, by decide +kernel, by decide +kernel⟩
abbrev s_law_number : Stmt := (topS 18)
abbrev N_law_number : List Str := ["pool"]
theorem sc_law_number : FnScope N_law_number ["pool"] (defScope s_law_number) := ⟨rfl, rfl, rfl, by decide +kernel, rfl, by decide +kernel, by decide +kernel⟩
abbrev s_law_same : Stmt := (topS 19)
abbrev N_law_same : List Str := ["actual", "due", "k"]
theorem sc_law_same : FnScope N_law_same ["actual", "due"] (defScope s_law_same) := ⟨rfl, rfl, rfl, by decide +kernel, rfl, by decide +kernel, by decide +kernel⟩
abbrev s_law_keys : Stmt := (topS 20)
abbrev N_law_keys : List Str := ["text"]
theorem sc_law_keys : FnScope N_law_keys [] (defScope s_law_keys) := ⟨rfl, rfl, rfl, by decide +kernel, rfl, by decide +kernel, by decide +kernel⟩
abbrev s_law_name : Stmt := (topS 21)
abbrev N_law_name : List Str := ["pool", "taken", "signs", "name", "k"]
theorem sc_law_name : FnScope N_law_name ["pool", "taken"] (defScope s_law_name) := ⟨rfl, rfl, rfl, by decide +kernel, rfl, by decide +kernel, by decide +kernel⟩
abbrev s_law_is_name : Stmt := (topS 23)
abbrev N_law_is_name : List Str := ["word", "good", "k", "letter"]
theorem sc_law_is_name : FnScope N_law_is_name ["word"] (defScope s_law_is_name) := ⟨rfl, rfl, rfl, by decide +kernel, rfl, by decide +kernel, by decide +kernel⟩
abbrev s_law_number_of : Stmt := (topS 24)
abbrev N_law_number_of : List Str := ["word", "number", "char"]
theorem sc_law_number_of : FnScope N_law_number_of ["word"] (defScope s_law_number_of) := ⟨rfl, rfl, rfl, by decide +kernel, rfl, by decide +kernel, by decide +kernel⟩
abbrev s_law_word : Stmt := (topS 25)
abbrev N_law_word : List Str := ["pool", "kind"]
theorem sc_law_word : FnScope N_law_word ["pool"] (defScope s_law_word) := ⟨rfl, rfl, rfl, by decide +kernel, rfl, by decide +kernel, by decide +kernel⟩
abbrev s_law_deed : Stmt := (topS 26)
abbrev N_law_deed : List Str := ["pool", "here", "kind", "names", "good", "word", "least", "place", "k"]
theorem sc_law_deed : FnScope N_law_deed ["pool", "here"] (defScope s_law_deed) := ⟨rfl, rfl, rfl, by decide +kernel, rfl, by decide +kernel, by decide +kernel⟩
abbrev s_law_due : Stmt := (topS 27)
abbrev N_law_due : List Str := ["deed", "here"]
theorem sc_law_due : FnScope N_law_due ["deed", "here"] (defScope s_law_due) := ⟨rfl, rfl, rfl, by decide +kernel, rfl, by decide +kernel, by decide +kernel⟩
abbrev s_law_done : Stmt := (topS 28)
abbrev N_law_done : List Str := ["cursor", "deed", "names", "e"]
theorem sc_law_done : FnScope N_law_done ["cursor", "deed", "names"] (defScope s_law_done) := ⟨rfl, rfl, rfl, by decide +kernel, rfl, by decide +kernel, by decide +kernel⟩
abbrev s_law : Stmt := (topS 29)
abbrev N_law : List Str := ["script", "pool", "size", "words", "passed", "cursor", "changed", "other", "first", "at", "k", "here", "deed", "due", "names", "actual"]
theorem sc_law : FnScope N_law ["script"] (defScope s_law) := ⟨rfl, rfl, rfl, by decide +kernel, rfl, by decide +kernel, by decide +kernel⟩
abbrev s_BadText_init : Stmt := (inClass (topS 2) 0)
abbrev N_BadText_init : List Str := ["self", "at"]
def spLaw (K : PySem.W.Frag) : Sp := fun vs H Q _ => ∃ (a : Addr) (ns : List Int), vs = [.ref a] ∧ SqL K H a (ns.map V.int) ∧ ns.length ≤ 63 ∧ ∀ H', Q (.bl true) H'
def cell (ns : List Int) (k : Int) : Int := ns.getD k.toNat 0
theorem same_upd {H : Hp} {p : Addr} {o : HO} (h : H p = none) : Same H (upd H p o) := fun b x e => by
  rw [upd_ne (ne_of_none e h)]
  exact e
theorem cut_from (xs : List V) (k : Nat) : cutV xs (some (k : Int)) none = xs.drop k := by
  unfold cutV
  rw [HT.sIx_nat, HT.sIx_none]
  by_cases h : k ≤ xs.length
  · rw [Nat.min_eq_left h]
    exact List.take_of_length_le (by rw [List.length_drop]; omega)
  · rw [Nat.min_eq_right (by omega), List.drop_eq_nil_of_le (by omega), List.drop_eq_nil_of_le (by omega)]
    simp
theorem cut_to (xs : List V) (k : Nat) : cutV xs none (some (k : Int)) = xs.take k := by
  unfold cutV
  rw [HT.sIx_nat, HT.sIx_none, List.drop_zero, Nat.sub_zero]
  by_cases h : k ≤ xs.length
  · rw [Nat.min_eq_left h]
  · rw [Nat.min_eq_right (by omega), List.take_of_length_le (Nat.le_refl _), List.take_of_length_le (by omega)]
theorem cut_to' (xs : List V) (k : Int) (h : 0 ≤ k) : cutV xs none (some k) = xs.take k.toNat := by
  obtain ⟨m, rfl⟩ := Int.eq_ofNat_of_zero_le h
  exact cut_to xs m
theorem cut_from' (xs : List V) (k : Int) (h : 0 ≤ k) : cutV xs (some k) none = xs.drop k.toNat := by
  obtain ⟨m, rfl⟩ := Int.eq_ofNat_of_zero_le h
  exact cut_from xs m
theorem small_le {n : Nat} (h : n ≤ 1000) : n ≤ sizeLine := Nat.le_of_lt (small1000 h)
theorem at_ofG {α : Type} {xs : List α} {z : Int} {j : Nat} {v : α} (e : z = (j : Int)) (h : xs[j]? = some v) : atI xs z = some v := by
  rw [e]
  exact atI_nat h
theorem int_of_map {ns : List Int} {i : Nat} {y : V} (hi : (ns.map V.int)[i]? = some y) : ∃ z, ns[i]? = some z ∧ y = V.int z := by
  rw [List.getElem?_map] at hi
  cases e : ns[i]? with
  | none => rw [e] at hi; cases hi
  | some u => rw [e] at hi; exact ⟨u, rfl, (Option.some.inj hi).symm⟩
theorem dp_ints {K : PySem.W.Frag} {H : Hp} : ∀ ns : List Int, DpAll K H (ns.map V.int) (ns.map PyData.int)
  | [] => .nil
  | n :: r => .cons (.int n) (dp_ints r)
theorem lay_ints : ∀ ns : List Int, PyData.canLayAll0 (ns.map PyData.int) = true ∧ PyData.depthAll (ns.map PyData.int) = 0
  | [] => ⟨by simp [PyData.canLayAll0], by simp [PyData.depthAll]⟩
  | n :: r => by
    have ih := lay_ints r
    exact ⟨by simp [PyData.canLayAll0, PyData.canLay0, ih.1], by simp [PyData.depthAll, PyData.depth, ih.2]⟩
theorem shaped_ints (ns : List Int) : SeqAt.shaped (.list (ns.map PyData.int)) = true := by
  have h := lay_ints ns
  unfold SeqAt.shaped
  simp [PyData.canLay0, PyData.depth, h.1, h.2]
theorem eqv_ints (ns : List Int) : PyData.eqv (.list (ns.map PyData.int)) (.list (ns.map PyData.int)) = true :=
  SeqAt.eqv_refl _ (by rw [PyData.canLay0]; exact (lay_ints ns).1)

mutual
/-- data that never changes: scalars and tracked tuples of such -/
inductive Im (H : Hp) : V → PyData → Prop
  | non : Im H .non .none
  | bl (b : Bool) : Im H (.bl b) (.bool b)
  | int (i : Int) : Im H (.int i) (.int i)
  | str (x : Str) : Im H (.str x) (.str x)
  | tup {a : Addr} {xs : List V} {ds : List PyData} : H a = some (.tup xs) → ImAll H xs ds → Im H (.ref a) (.tuple ds)
inductive ImAll (H : Hp) : List V → List PyData → Prop
  | nil : ImAll H [] []
  | cons {v : V} {vs : List V} {d : PyData} {ds : List PyData} : Im H v d → ImAll H vs ds → ImAll H (v :: vs) (d :: ds)
end
/-- the tracked tuples stay -/
def KeepT (H H' : Hp) : Prop := ∀ b xs, H b = some (.tup xs) → H' b = some (.tup xs)
theorem KeepT.refl (H : Hp) : KeepT H H := fun _ _ h => h
theorem KeepT.trans {H H1 H2 : Hp} (a : KeepT H H1) (b : KeepT H1 H2) : KeepT H H2 := fun c x h => b c x (a c x h)
theorem keepT_of {H H' : Hp} (s : Same H H') : KeepT H H' := fun b xs h => s b _ h
theorem keepT_lst {H : Hp} {p : Addr} {xs ys : List V} (h : H p = some (.lst xs)) : KeepT H (upd H p (.lst ys)) := fun b zs e => by
  have n : b ≠ p := fun q => by rw [q, h] at e; cases e
  rw [upd_ne n]
  exact e
mutual
theorem Im.keep {H H' : Hp} (k : KeepT H H') : ∀ {v : V} {d : PyData}, Im H v d → Im H' v d
  | _, _, .non => .non
  | _, _, .bl b => .bl b
  | _, _, .int i => .int i
  | _, _, .str x => .str x
  | _, _, .tup h a => .tup (k _ _ h) (ImAll.keep k a)
theorem ImAll.keep {H H' : Hp} (k : KeepT H H') : ∀ {vs : List V} {ds : List PyData}, ImAll H vs ds → ImAll H' vs ds
  | _, _, .nil => .nil
  | _, _, .cons h a => .cons (Im.keep k h) (ImAll.keep k a)
end
mutual
theorem Im.dp {K : PySem.W.Frag} {H : Hp} : ∀ {v : V} {d : PyData}, Im H v d → Dp K H v d
  | _, _, .non => .non
  | _, _, .bl b => .bl b
  | _, _, .int i => .int i
  | _, _, .str x => .str x
  | _, _, .tup h a => .tup (SqT.of h) (ImAll.dp a)
theorem ImAll.dp {K : PySem.W.Frag} {H : Hp} : ∀ {vs : List V} {ds : List PyData}, ImAll H vs ds → DpAll K H vs ds
  | _, _, .nil => .nil
  | _, _, .cons h a => .cons (Im.dp h) (ImAll.dp a)
end
theorem ImAll.len {H : Hp} : ∀ {vs : List V} {ds : List PyData}, ImAll H vs ds → vs.length = ds.length
  | _, _, .nil => rfl
  | _, _, .cons _ a => by rw [List.length_cons, List.length_cons, ImAll.len a]
theorem ImAll.append {H : Hp} : ∀ {vs us : List V} {ds es : List PyData}, ImAll H vs ds → ImAll H us es → ImAll H (vs ++ us) (ds ++ es)
  | _, _, _, _, .nil, b => b
  | _, _, _, _, .cons h a, b => .cons h (ImAll.append a b)
theorem ImAll.get {H : Hp} : ∀ {vs : List V} {ds : List PyData} {i : Nat} {d : PyData}, ImAll H vs ds → ds[i]? = some d → ∃ v, vs[i]? = some v ∧ Im H v d
  | _, _, 0, _, .cons h _, e => by
    cases e
    exact ⟨_, rfl, h⟩
  | _, _, i + 1, _, .cons _ a, e => by
    rw [List.getElem?_cons_succ] at e
    rw [List.getElem?_cons_succ]
    exact ImAll.get a e
theorem ImAll.take {H : Hp} : ∀ {vs : List V} {ds : List PyData} (i : Nat), ImAll H vs ds → ImAll H (vs.take i) (ds.take i)
  | _, _, 0, _ => by
    rw [List.take_zero, List.take_zero]
    exact .nil
  | _, _, _ + 1, .nil => by
    rw [List.take_nil, List.take_nil]
    exact .nil
  | _, _, i + 1, .cons h a => .cons h (ImAll.take i a)
theorem ImAll.snoc {H : Hp} {vs : List V} {ds : List PyData} {v : V} {d : PyData} (a : ImAll H vs ds) (h : Im H v d) : ImAll H (vs ++ [v]) (ds ++ [d]) := a.append (.cons h .nil)
theorem ImAll.rev {H : Hp} : ∀ {vs : List V} {ds : List PyData}, ImAll H vs ds → ImAll H vs.reverse ds.reverse
  | _, _, .nil => .nil
  | _, _, .cons h a => by
    rw [List.reverse_cons, List.reverse_cons]
    exact (ImAll.rev a).snoc h
mutual
/-- all sequences are short -/
def wide : PyData → Bool
  | .list xs => decide (xs.length ≤ 1000000) && wideAll xs
  | .tuple xs => decide (xs.length ≤ 1000000) && wideAll xs
  | .none => true
  | .bool _ => true
  | .int _ => true
  | .str _ => true
  | .dict _ => false
def wideAll : List PyData → Bool
  | [] => true
  | x :: r => wide x && wideAll r
end
/-- what a comparison asks of data: sizes -/
def Lay (n : Nat) (d : PyData) : Prop := d.canLay0 = true ∧ d.depth ≤ n ∧ wide d = true
theorem lay_all : ∀ {n : Nat} {ds : List PyData}, (∀ d ∈ ds, Lay n d) → PyData.canLayAll0 ds = true ∧ PyData.depthAll ds ≤ n ∧ wideAll ds = true
  | n, [], _ => ⟨by simp [PyData.canLayAll0], by simp [PyData.depthAll], by simp [wideAll]⟩
  | n, d :: r, h => by
    have h1 := h d List.mem_cons_self
    have h2 := lay_all fun e he => h e (List.mem_cons_of_mem d he)
    refine ⟨by simp [PyData.canLayAll0, h1.1, h2.1], ?_, by simp [wideAll, h1.2.2, h2.2.2]⟩
    simp only [PyData.depthAll]
    exact Nat.max_le.mpr ⟨h1.2.1, h2.2.1⟩
theorem lay_tuple {n : Nat} {ds : List PyData} (hl : ds.length ≤ 1000000) (h : ∀ d ∈ ds, Lay n d) : Lay (n + 1) (.tuple ds) := by
  have q := lay_all h
  exact ⟨by simp [PyData.canLay0, q.1], by simp only [PyData.depth]; omega, by simp only [wide, q.2.2, decide_eq_true hl]; rfl⟩
theorem lay_list {n : Nat} {ds : List PyData} (hl : ds.length ≤ 1000000) (h : ∀ d ∈ ds, Lay n d) : Lay (n + 1) (.list ds) := by
  have q := lay_all h
  exact ⟨by simp [PyData.canLay0, q.1], by simp only [PyData.depth]; omega, by simp only [wide, q.2.2, decide_eq_true hl]; rfl⟩
theorem Lay.mono {n m : Nat} {d : PyData} (h : Lay n d) (l : n ≤ m) : Lay m d := ⟨h.1, Nat.le_trans h.2.1 l, h.2.2⟩
theorem Lay.shaped {n : Nat} {d : PyData} (h : Lay n d) (l : n ≤ 64) : SeqAt.shaped d = true := by
  unfold SeqAt.shaped
  rw [h.1, decide_eq_true (Nat.le_trans h.2.1 l)]
  rfl
theorem Lay.refl {n : Nat} {d : PyData} (h : Lay n d) : PyData.eqv d d = true := SeqAt.eqv_refl _ h.1
theorem lay_int (i : Int) : Lay 0 (.int i) := ⟨by simp [PyData.canLay0], by simp [PyData.depth], by simp [wide]⟩
theorem lay_str {x : Str} (h : PyData.strOk x = true) : Lay 0 (.str x) := ⟨by simp [PyData.canLay0, h], by simp [PyData.depth], by simp [wide]⟩
theorem lay_none : Lay 0 .none := ⟨by simp [PyData.canLay0], by simp [PyData.depth], by simp [wide]⟩
theorem lay_bool (b : Bool) : Lay 0 (.bool b) := ⟨by simp [PyData.canLay0], by simp [PyData.depth], by simp [wide]⟩
theorem wide_get {ds : List PyData} {i : Nat} {d : PyData} : wideAll ds = true → ds[i]? = some d → wide d = true := by
  induction ds generalizing i with
  | nil => intro _ h; simp at h
  | cons x r ih =>
    intro hw h
    simp only [wideAll, Bool.and_eq_true] at hw
    cases i with
    | zero => cases h; exact hw.1
    | succ i => exact ih (i := i) hw.2 (by rw [List.getElem?_cons_succ] at h; exact h)
/-- view + (event,) -/
theorem cat_ev {K : PySem.W.Frag} {H : Hp} {v t u : Addr} {xs : List V} {ds : List PyData} {e : PyData} {Q : VK} (hv : H v = some (.tup xs)) (hA : ImAll H xs ds) (he : Im H (.ref t) e) (hu : H u = some (.tup [.ref t])) (hz : xs.length ≤ 900)
    (k : ∀ (p : Addr) (H' : Hp), Same H H' → Im H' (.ref p) (.tuple (ds ++ [e])) → Q (.ref p) H') : rCatA K (.ref v) (.ref u) H Q := by
  refine ⟨v, u, xs, [.ref t], rfl, rfl, SqT.of hv, SqT.of hu, by show xs.length + 1 ≤ sizeLine; exact small_le (by omega), fun z => ?_, fun _ z => (by cases z), fun _ _ p hp => ?_⟩
  · subst z
    cases hA
    exact k u H (Same.refl H) (.tup hu (.cons he .nil))
  · exact k p _ (same_upd hp) (.tup upd_same ((hA.snoc he).keep (keepT_of (same_upd hp))))
theorem upd2_same {H : Hp} {t u : Addr} {o o' : HO} (ht : H t = none) (hu : upd H t o u = none) : Same H (upd (upd H t o) u o') := (same_upd ht).trans (same_upd hu)


/-- the drawing pool at p: the script's cells at c, five numbers -/
def Pool (H : Hp) (p c : Addr) (b : Int) : Prop := ∃ (ns : List Int) (i r s t : Int), H p = some (.lst [.ref c, .int i, .int r, .int s, .int t, .int b]) ∧ H c = some (.lst (ns.map V.int)) ∧ 0 ≤ i ∧ c ≠ p
def But (p : Addr) (H H' : Hp) : Prop := ∀ b o, b ≠ p → H b = some o → H' b = some o
theorem But.refl (p : Addr) (H : Hp) : But p H H := fun _ _ _ h => h
theorem But.trans {p : Addr} {H H1 H2 : Hp} (a : But p H H1) (b : But p H1 H2) : But p H H2 := fun c o n h => b c o n (a c o n h)
theorem but_of {p : Addr} {H H' : Hp} (s : Same H H') : But p H H' := fun b o _ h => s b o h
theorem but_upd {p : Addr} {H : Hp} {o : HO} : But p H (upd H p o) := fun b x n e => by rw [upd_ne n]; exact e
/-- what stood before the list at p was made stays -/
theorem But.same {p : Addr} {H0 H H' : Hp} (b : But p H H') (s : Same H0 H) (n : H0 p = none) : Same H0 H' := fun c o e => b c o (ne_of_none e n) (s c o e)
theorem But.keepT {p : Addr} {xs : List V} {H H' : Hp} (b : But p H H') (h : H p = some (.lst xs)) : KeepT H H' := fun c ys e => b c _ (fun z => by rw [z, h] at e; cases e) e
theorem Pool.keepT {p c : Addr} {b : Int} {H H' : Hp} (h : Pool H p c b) (k : But p H H') : KeepT H H' := by
  obtain ⟨ns, i, r, s, t, hp, _⟩ := h
  exact k.keepT hp
theorem Pool.same {p c : Addr} {b : Int} {H H' : Hp} (h : Pool H p c b) (k : Same H H') : Pool H' p c b := by
  obtain ⟨ns, i, r, s, t, hp, hc, h0, n⟩ := h
  exact ⟨ns, i, r, s, t, k _ _ hp, k _ _ hc, h0, n⟩
theorem Pool.upd {p c q : Addr} {b : Int} {H : Hp} (h : Pool H p c b) (n1 : q ≠ p) (n2 : q ≠ c) (o : HO) : Pool (L2.upd H q o) p c b := by
  obtain ⟨ns, i, r, s, t, hp, hc, h0, n⟩ := h
  exact ⟨ns, i, r, s, t, by rw [upd_ne n1.symm]; exact hp, by rw [upd_ne n2.symm]; exact hc, h0, n⟩
theorem Pool.ne2 {p c q : Addr} {b : Int} {H : Hp} (h : Pool H p c b) (e : H q = none) : q ≠ c := by
  obtain ⟨ns, i, r, s, t, hp, hc, _⟩ := h
  exact fun z => by rw [z, hc] at e; cases e
theorem Pool.ne {p c q : Addr} {b : Int} {H : Hp} (h : Pool H p c b) (e : H q = none) : q ≠ p := by
  obtain ⟨ns, i, r, s, t, hp, _⟩ := h
  exact fun z => by rw [z, hp] at e; cases e
/-- data of any make: tuples and lists that are tracked -/
inductive Da (H : Hp) : V → PyData → Prop
  | non : Da H .non .none
  | bl (b : Bool) : Da H (.bl b) (.bool b)
  | int (i : Int) : Da H (.int i) (.int i)
  | str (x : Str) : Da H (.str x) (.str x)
  | tup {a : Addr} {xs : List V} {ds : List PyData} : H a = some (.tup xs) → xs.length = ds.length → (∀ (i : Nat) v d, xs[i]? = some v → ds[i]? = some d → Da H v d) → Da H (.ref a) (.tuple ds)
  | lst {a : Addr} {xs : List V} {ds : List PyData} : H a = some (.lst xs) → xs.length = ds.length → (∀ (i : Nat) v d, xs[i]? = some v → ds[i]? = some d → Da H v d) → Da H (.ref a) (.list ds)
mutual
theorem Im.da {H : Hp} : ∀ {v : V} {d : PyData}, Im H v d → Da H v d
  | _, _, .non => .non
  | _, _, .bl b => .bl b
  | _, _, .int i => .int i
  | _, _, .str x => .str x
  | _, _, .tup h a => .tup h a.len (ImAll.da a)
theorem ImAll.da {H : Hp} : ∀ {vs : List V} {ds : List PyData}, ImAll H vs ds → ∀ (i : Nat) v d, vs[i]? = some v → ds[i]? = some d → Da H v d
  | _, _, .nil => fun i v d h _ => by simp at h
  | _, _, .cons h a => fun i v d h1 h2 => match i, h1, h2 with
    | 0, h1, h2 => by
      cases h1
      cases h2
      exact Im.da h
    | i + 1, h1, h2 => ImAll.da a i v d (by rw [List.getElem?_cons_succ] at h1; exact h1) (by rw [List.getElem?_cons_succ] at h2; exact h2)
end
theorem Da.strs {H : Hp} {a : Addr} {ys : List Str} (h : H a = some (.lst (ys.map V.str))) : Da H (.ref a) (.list (ys.map PyData.str)) := by
  refine .lst h (by rw [List.length_map, List.length_map]) fun i v d h1 h2 => ?_
  rw [List.getElem?_map] at h1 h2
  cases e : ys[i]? with
  | none => rw [e] at h1; cases h1
  | some y =>
    rw [e] at h1 h2
    cases h1
    cases h2
    exact .str y
theorem depth_get {ds : List PyData} {i : Nat} {d : PyData} : ds[i]? = some d → d.depth ≤ PyData.depthAll ds := by
  induction ds generalizing i with
  | nil => intro h; simp at h
  | cons x r ih =>
    intro h
    simp only [PyData.depthAll]
    cases i with
    | zero => cases h; exact Nat.le_max_left _ _
    | succ i => exact Nat.le_trans (ih (i := i) (by rw [List.getElem?_cons_succ] at h; exact h)) (Nat.le_max_right _ _)

/-- all signs below 128 -/
def Asc (x : Str) : Prop := ∀ c ∈ x.cps.toList, c < 128
def keyL : List Str := ["option", "on", "off", "var", "round", "end", "set", "if", "else", "when", "draw", "first", "second", "show", "both", "pay", "take", "pick", "mod", "player", "keep", "lot", "while", "answer", "view", "long"]
def keyV : List V := keyL.map V.str
theorem key_flat : keyV.all flatV = true := by decide +kernel
def loL : List Nat := List.range' 97 26
def ldL : List Nat := List.range' 97 26 ++ List.range' 48 10
def lettersS : Str := "abcdefghijklmnopqrstuvwxyz"
def ldS : Str := "abcdefghijklmnopqrstuvwxyz0123456789"
theorem letters_eq : lettersS.cps.toList = loL := by decide +kernel
theorem ld_eq : ldS.cps.toList = ldL := by decide +kernel
theorem lo_mem (c : Nat) : c ∈ loL ↔ 97 ≤ c ∧ c ≤ 122 := by
  unfold loL
  rw [List.mem_range'_1]
  omega
theorem ld_mem (c : Nat) : c ∈ ldL ↔ (97 ≤ c ∧ c ≤ 122) ∨ (48 ≤ c ∧ c ≤ 57) := by
  unfold ldL
  rw [List.mem_append, List.mem_range'_1, List.mem_range'_1]
  omega
def othersS : Str := "ABCDEFGHIJKLMNOPQRSTUVWXYZ !\"#$&'()*+,-./:;<=>?@\x5b\\]^_`{|}~\n\t"
def okAt (k c : Nat) : Prop := (97 ≤ c ∧ c ≤ 122) ∨ (0 < k ∧ 48 ≤ c ∧ c ≤ 57)
/-- a name -/
def NameP (x : Str) : Prop := 1 ≤ x.length ∧ x.length ≤ 12 ∧ inV (.str x) keyV = false ∧ ∀ k c, x.cps.toList[k]? = some c → okAt k c
/-- one sign against one sign -/
theorem lt1 (a b : Nat) : ((⟨#[a]⟩ : Str).cps.toList < (⟨#[b]⟩ : Str).cps.toList) ↔ a < b := by
  show [a] < [b] ↔ a < b
  constructor
  · intro h
    rcases List.cons_lt_cons_iff.mp h with h | ⟨_, h⟩
    · exact h
    · exact absurd h (by simp)
  · intro h
    exact List.cons_lt_cons_iff.mpr (.inl h)
/-- a number's word and what it is -/
def NumR (x : Str) (r : V) : Prop := (∃ n : Nat, n ≤ 65535 ∧ x.cps.toList = TL.numL n ∧ r = .int n) ∨ ((∀ n : Nat, n ≤ 65535 → x.cps.toList ≠ TL.numL n) ∧ r = .non)
theorem num_same {x : Str} {r q : V} (h : NumR x r) (g : NumR x q) : r = q := by
  rcases h with ⟨n, hn, e, rfl⟩ | ⟨h, rfl⟩
  · rcases g with ⟨m, hm, e2, rfl⟩ | ⟨g, rfl⟩
    · rw [TL.numL_inj (e.symm.trans e2)]
    · exact absurd e (g n hn)
  · rcases g with ⟨m, hm, e2, rfl⟩ | ⟨g, rfl⟩
    · exact absurd e2 (h m hm)
    · rfl
theorem num_da {x : Str} {r : V} {H : Hp} (h : NumR x r) : ∃ d : PyData, Da H r d ∧ d.depth < 8 ∧ wide d = true := by
  rcases h with ⟨n, hn, e, rfl⟩ | ⟨h, rfl⟩
  · exact ⟨.int n, .int _, by simp [PyData.depth], by simp [wide]⟩
  · exact ⟨.none, .non, by simp [PyData.depth], by simp [wide]⟩
theorem asc_isascii {x : Str} (h : Asc x) : Txt.isascii x = true := by
  unfold Txt.isascii
  rw [Array.all_eq_true_iff_forall_mem]
  intro c m
  exact decide_eq_true (h c (Array.mem_toList_iff.mpr m))
theorem digit128 : ∀ c, c < 128 → PySem.Unicode.isDigit c = (decide (48 ≤ c) && decide (c ≤ 57)) := by decide +kernel
theorem isdigit_iff {x : Str} (h : Asc x) : Txt.isdigit x = true ↔ (NumText.AllDigits x.cps.toList ∧ x.cps.toList ≠ []) := by
  unfold Txt.isdigit
  rw [Bool.and_eq_true, Array.all_eq_true_iff_forall_mem, decide_eq_true_eq]
  constructor
  · rintro ⟨h1, h2⟩
    refine ⟨fun c m => ?_, fun z => ?_⟩
    · have h3 := h2 c (Array.mem_toList_iff.mp m)
      rw [digit128 c (h c m), Bool.and_eq_true, decide_eq_true_eq, decide_eq_true_eq] at h3
      exact h3
    · have h4 : 0 < x.cps.toList.length := h1
      rw [z] at h4
      exact Nat.lt_irrefl 0 h4
  · rintro ⟨h1, h2⟩
    refine ⟨List.length_pos_iff.mpr h2, fun c m => ?_⟩
    have m' := Array.mem_toList_iff.mpr m
    have h3 := h1 c m'
    rw [digit128 c (h c m'), Bool.and_eq_true, decide_eq_true_eq, decide_eq_true_eq]
    exact h3
theorem str_num {x : Str} {n : Nat} (e : x.cps.toList = TL.numL n) : (Str.ofString (toString ((n : Nat) : Int))) = x := ext_toList ((TL.tl_num n).trans e.symm)
theorem num_str {x : Str} {n : Nat} (e : V.str (Str.ofString (toString ((n : Nat) : Int))) = V.str x) : x.cps.toList = TL.numL n := by
  rw [← V.str.inj e]
  exact TL.tl_num n
theorem dv_snoc (l : List Nat) (c : Nat) : NumText.digitsVal (l ++ [c]) = NumText.digitsVal l * 10 + (c - 48) := by
  unfold NumText.digitsVal
  rw [List.foldl_append]
  rfl
theorem name_iff {l : List Nat} {c0 : Nat} (h0 : l[0]? = some c0) : (c0 ∈ loL ∧ ∀ c ∈ l, c ∈ ldL) ↔ ∀ (k : Nat) c, l[k]? = some c → okAt k c := by
  constructor
  · rintro ⟨h1, h2⟩ k c e
    cases k with
    | zero =>
      rw [h0] at e
      cases e
      exact .inl ((lo_mem _).mp h1)
    | succ k =>
      rcases (ld_mem c).mp (h2 c (List.mem_of_getElem? e)) with h | h
      · exact .inl h
      · exact .inr ⟨Nat.succ_pos _, h⟩
  · intro h
    refine ⟨(lo_mem _).mpr ?_, fun c m => (ld_mem c).mpr ?_⟩
    · rcases h 0 c0 h0 with h | h
      · exact h
      · exact absurd h.1 (Nat.lt_irrefl 0)
    · obtain ⟨k, e⟩ := List.getElem?_of_mem m
      rcases h k c e with h | h
      · exact .inl h
      · exact .inr h.2
theorem all_iff {l : List Nat} {m : List Nat} : ((l.map fun c => decide (c ∈ m)).all id = true) ↔ ∀ c ∈ l, c ∈ m := by
  rw [List.all_eq_true]
  constructor
  · intro h c hc
    exact of_decide_eq_true (h _ (List.mem_map.mpr ⟨c, hc, rfl⟩))
  · intro h b hb
    obtain ⟨c, hc, rfl⟩ := List.mem_map.mp hb
    exact decide_eq_true (h c hc)
theorem step_iff {l : List Nat} {i c : Nat} (gc : l[i]? = some c) : (∀ (k : Nat) d, k < i + 1 → l[k]? = some d → okAt k d) ↔ (∀ (k : Nat) d, k < i → l[k]? = some d → okAt k d) ∧ okAt i c := by
  constructor
  · intro h
    exact ⟨fun k d hk => h k d (Nat.lt_succ_of_lt hk), h i c (Nat.lt_succ_self i) gc⟩
  · rintro ⟨h1, h2⟩ k d hk e
    rcases Nat.lt_succ_iff_lt_or_eq.mp hk with h | rfl
    · exact h1 k d h e
    · rw [gc] at e
      cases e
      exact h2
theorem pick {ss : List Str} {r : Int} (h0 : 0 ≤ r) (h1 : r < (ss.length : Int)) : ∃ w, w ∈ ss ∧ atI (ss.map V.str) r = some (.str w) := by
  have hlt : r.toNat < ss.length := by omega
  refine ⟨ss[r.toNat], List.getElem_mem hlt, at_ofG (j := r.toNat) (by omega) ?_⟩
  rw [List.getElem?_map, List.getElem?_eq_getElem hlt]
  rfl
theorem pickS {z : Str} {r : Int} (h0 : 0 ≤ r) (h1 : r < (z.length : Int)) : ∃ c, c ∈ z.cps.toList ∧ atI z.cps.toList r = some c := by
  have hz : z.length = z.cps.toList.length := rfl
  have hlt : r.toNat < z.cps.toList.length := by omega
  exact ⟨z.cps.toList[r.toNat], List.getElem_mem hlt, at_ofG (j := r.toNat) (by omega) (List.getElem?_eq_getElem hlt)⟩
def ascB (n : Nat) (ss : List Str) : Bool := ss.all fun w => decide (w.length ≤ n) && w.cps.toList.all fun c => decide (c < 128)
theorem asc_of {n : Nat} {ss : List Str} (h : ascB n ss = true) {w : Str} (m : w ∈ ss) : Asc w ∧ w.length ≤ n := by
  have h1 := List.all_eq_true.mp h w m
  rw [Bool.and_eq_true, decide_eq_true_eq] at h1
  exact ⟨fun c hc => of_decide_eq_true (List.all_eq_true.mp h1.2 c hc), h1.1⟩
theorem app_list (a b : Str) : (a ++ b).cps.toList = a.cps.toList ++ b.cps.toList := by
  show (a.cps ++ b.cps).toList = _
  simp
theorem app_len (a b : Str) : (a ++ b).length = a.length + b.length := by
  show (a ++ b).cps.toList.length = a.cps.toList.length + b.cps.toList.length
  rw [app_list, List.length_append]
theorem app_asc {a b : Str} (h : Asc a) (g : Asc b) : Asc (a ++ b) := by
  intro c m
  rw [app_list] at m
  rcases List.mem_append.mp m with m | m
  · exact h c m
  · exact g c m
theorem one_asc {c : Nat} (h : c < 128) : Asc ⟨#[c]⟩ := by
  intro d m
  have m' : d ∈ [c] := m
  rw [List.mem_singleton.mp m']
  exact h
theorem cutS_asc {z : Str} (h : Asc z) (lo hi : Option Int) : Asc (cutS z lo hi) := by
  intro c m
  have m' : c ∈ (((z.cps.toList.drop (HT.sIx z.length 0 lo)).take (HT.sIx z.length z.length hi - HT.sIx z.length 0 lo)).toArray).toList := m
  rw [List.toList_toArray] at m'
  exact h c (List.mem_of_mem_drop (List.mem_of_mem_take m'))
theorem num_asc (n : Nat) (h : n < 10 ^ 6) : Asc (Str.ofString (toString ((n : Nat) : Int))) ∧ (Str.ofString (toString ((n : Nat) : Int))).length ≤ 6 := by
  constructor
  · intro c m
    have m' : c ∈ TL.numL n := by rw [← TL.tl_num n]; exact m
    have := TL.numL_digits n c m'
    omega
  · have e : (Str.ofString (toString ((n : Nat) : Int))).cps.toList = TL.numL n := TL.tl_num n
    show (Str.ofString (toString ((n : Nat) : Int))).cps.toList.length ≤ 6
    rw [e]
    exact TL.numL_len (by decide) h
theorem log_small {n : Nat} (h : n < 10 ^ 101) : ((n : Nat) : Int).natAbs.log2 < 1920 := by
  rw [Int.natAbs_natCast]
  have : n.log2 ≤ 1919 := PySem.W.mg_log (Nat.lt_of_lt_of_le h (by decide +kernel))
  omega
theorem key_split : Txt.split (("option on off var round end set if else when draw first second show both pay take pick mod player keep lot" : Str) ++ (" while answer view long" : Str)) (" " : Str) = keyL := by decide +kernel
theorem join_signs : ∀ cs : List Nat, (Txt.join ("" : Str) (cs.map fun x => (⟨#[x]⟩ : Str))).cps.toList = cs := by
  have h : ∀ cs : List Nat, (Str.join ("" : Str) (cs.map fun x => (⟨#[x]⟩ : Str))).cps.toList = cs := by
    intro cs
    induction cs with
    | nil => rfl
    | cons a r ih =>
      cases r with
      | nil => rfl
      | cons b r =>
        show (((⟨#[a]⟩ : Str) ++ ("" : Str)) ++ Str.join ("" : Str) ((b :: r).map fun x => (⟨#[x]⟩ : Str))).cps.toList = a :: b :: r
        have e : ((((⟨#[a]⟩ : Str) ++ ("" : Str)) ++ Str.join ("" : Str) ((b :: r).map fun x => (⟨#[x]⟩ : Str))).cps.toList) = a :: (Str.join ("" : Str) ((b :: r).map fun x => (⟨#[x]⟩ : Str))).cps.toList := by
          show ((#[a] ++ ("" : Str).cps) ++ (Str.join ("" : Str) ((b :: r).map fun x => (⟨#[x]⟩ : Str))).cps).toList = _
          rw [Array.toList_append, Array.toList_append]
          rfl
        rw [e, ih]
  intro cs
  show (Builtin.Str.glued _ _).cps.toList = cs
  rw [StrLaws.glued_eq_join]
  exact h cs
theorem sum_signs (cs : List Nat) : ((cs.map fun x => (⟨#[x]⟩ : Str)).map (·.length)).sum = cs.length := by
  rw [List.map_map]
  induction cs with
  | nil => rfl
  | cons y r ih =>
    rw [List.map_cons, List.sum_cons, ih, List.length_cons]
    show 1 + r.length = r.length + 1
    omega
theorem ge1 {a b : Nat} : ((!decide ((⟨#[a]⟩ : Str).cps.toList < (⟨#[b]⟩ : Str).cps.toList)) = true) ↔ b ≤ a := by
  rw [Bool.not_eq_true', decide_eq_false_iff_not, lt1]
  omega

/-! ### names that the law draws -/
def kwL : List Str := ["option", "on", "off", "var", "round", "end", "set", "if", "else", "when", "draw", "first", "second", "show", "both", "pay", "take", "pick", "mod", "player", "keep", "lot", "while", "answer", "view", "long"]
theorem kw_split : Txt.split (("option on off var round end set if else when draw first second show both pay take pick mod player keep lot" : Str) ++ (" while answer view long" : Str)) (" " : Str) = kwL := by decide +kernel
def LetC (c : Nat) : Prop := 97 ≤ c ∧ c ≤ 122
def NmC (c : Nat) : Prop := LetC c ∨ (48 ≤ c ∧ c ≤ 57)
def NmF (x : Str) : Prop := ∃ c r, x.cps.toList = c :: r ∧ LetC c ∧ (∀ d ∈ r, NmC d) ∧ r.length ≤ 11
/-- a name -/
def Nm (x : Str) : Prop := NmF x ∧ x ∉ kwL
theorem NmF.lt {x : Str} (h : NmF x) : ∀ c ∈ x.cps.toList, c < 128 := by
  obtain ⟨c, r, e, h1, h2, _⟩ := h
  intro d m
  rw [e] at m
  rcases List.mem_cons.mp m with rfl | m
  · have := h1.2
    omega
  · rcases h2 d m with h | h
    · have := h.2
      omega
    · omega
theorem NmF.ok {x : Str} (h : NmF x) : PyData.strOk x = true := by
  unfold PyData.strOk
  rw [Array.all_eq_true_iff_forall_mem]
  intro c m
  have := h.lt c (Array.mem_toList_iff.mpr m)
  simp
  omega
theorem NmF.len {x : Str} (h : NmF x) : x.length ≤ 12 := by
  obtain ⟨c, r, e, _, _, h3⟩ := h
  show x.cps.toList.length ≤ 12
  rw [e, List.length_cons]
  omega
theorem app_cps (a b : Str) : (a ++ b).cps.toList = a.cps.toList ++ b.cps.toList := by
  show (a.cps ++ b.cps).toList = _
  simp
def vS (k : Nat) : Str := ("v" : Str) ++ Str.ofString (toString ((k : Nat) : Int))
theorem vS_cps (k : Nat) : (vS k).cps.toList = 118 :: TL.numL k := by
  unfold vS
  have e : (Str.ofString (toString ((k : Nat) : Int))).cps.toList = TL.numL k := TL.tl_num k
  rw [app_cps, e]
  rfl
theorem vS_nm {k : Nat} (h : k < 20) : Nm (vS k) := by
  refine ⟨⟨118, TL.numL k, vS_cps k, ⟨by decide, by decide⟩, fun d m => .inr (TL.numL_digits k d m), ?_⟩, ?_⟩
  · have := TL.numL_len (n := k) (k := 2) (by decide) (by omega)
    omega
  · have : (List.range 20).all (fun k => decide (vS k ∉ kwL)) = true := by decide +kernel
    exact of_decide_eq_true (List.all_eq_true.mp this k (List.mem_range.mpr h))
theorem nodup_le {α : Type} [DecidableEq α] : ∀ {l ts : List α}, l.Nodup → (∀ x ∈ l, x ∈ ts) → l.length ≤ ts.length
  | [], _, _, _ => Nat.zero_le _
  | a :: r, ts, nd, h => by
    rw [List.nodup_cons] at nd
    have ih := nodup_le (l := r) (ts := ts.erase a) nd.2 fun x m => (List.mem_erase_of_ne (fun e => nd.1 (by rw [← e]; exact m))).mpr (h x (List.mem_cons_of_mem _ m))
    have ma := h a List.mem_cons_self
    rw [List.length_erase_of_mem ma] at ih
    have : 0 < ts.length := List.length_pos_of_mem ma
    rw [List.length_cons]
    omega
theorem vS_free {ts : List Str} (h : ts.length < 20) : ¬ ∀ k, k < 20 → vS k ∈ ts := fun z => by
  have nd : ((List.range 20).map vS).Nodup := by decide +kernel
  have := nodup_le nd fun x m => by
    obtain ⟨k, mk, rfl⟩ := List.mem_map.mp m
    exact z k (List.mem_range.mp mk)
  rw [List.length_map, List.length_range] at this
  omega
def ldN : Str := "abcdefghijklmnopqrstuvwxyz0123456789"
theorem ld_let {r : Int} (h0 : 0 ≤ r) (h1 : r < 26) : ∃ c, atI ldN.cps.toList r = some c ∧ LetC c := by
  have hl : ldN.cps.toList.length = 36 := by decide +kernel
  have hlt : r.toNat < ldN.cps.toList.length := by omega
  refine ⟨ldN.cps.toList[r.toNat], at_ofG (j := r.toNat) (by omega) (List.getElem?_eq_getElem hlt), ?_⟩
  have : (List.range 26).all (fun i => decide (97 ≤ ldN.cps.toList.getD i 0 ∧ ldN.cps.toList.getD i 0 ≤ 122)) = true := by decide +kernel
  have := of_decide_eq_true (List.all_eq_true.mp this r.toNat (List.mem_range.mpr (by omega)))
  rw [List.getD_eq_getElem?_getD, List.getElem?_eq_getElem hlt] at this
  exact this
theorem ld_nm {r : Int} (h0 : 0 ≤ r) (h1 : r < 36) : ∃ c, atI ldN.cps.toList r = some c ∧ NmC c := by
  have hl : ldN.cps.toList.length = 36 := by decide +kernel
  have hlt : r.toNat < ldN.cps.toList.length := by omega
  refine ⟨ldN.cps.toList[r.toNat], at_ofG (j := r.toNat) (by omega) (List.getElem?_eq_getElem hlt), ?_⟩
  have : (List.range 36).all (fun i => decide ((97 ≤ ldN.cps.toList.getD i 0 ∧ ldN.cps.toList.getD i 0 ≤ 122) ∨ (48 ≤ ldN.cps.toList.getD i 0 ∧ ldN.cps.toList.getD i 0 ≤ 57))) = true := by decide +kernel
  have := of_decide_eq_true (List.all_eq_true.mp this r.toNat (List.mem_range.mpr (by omega)))
  rw [List.getD_eq_getElem?_getD, List.getElem?_eq_getElem hlt] at this
  exact this
theorem inV_strs {x : Str} : ∀ {l : List Str}, inV (.str x) (l.map V.str) = decide (x ∈ l)
  | [] => by simp [inV]
  | y :: r => by
    have ih := inV_strs (x := x) (l := r)
    unfold inV at ih ⊢
    rw [List.map_cons, List.any_cons, ih]
    have e : eqV (V.str y) (V.str x) = decide (x = y) := by
      show (y == x) = _
      by_cases h : x = y
      · rw [decide_eq_true h, h]
        exact beq_self_eq_true y
      · rw [decide_eq_false h]
        exact beq_eq_false_iff_ne.mpr fun z => h z.symm
    rw [e]
    by_cases h1 : x = y <;> by_cases h2 : x ∈ r <;> simp [h1, h2]
/-- the last one of v0 to v19 that is free -/
def VW (ts : List Str) (x0 : Str) (i : Nat) (x : Str) : Prop := (Nm x ∧ x ∉ ts) ∨ (x = x0 ∧ ∀ k, k < i → vS k ∈ ts)
theorem VW.next {ts : List Str} {x0 x : Str} {i : Nat} (h : VW ts x0 i x) (m : vS i ∈ ts) : VW ts x0 (i + 1) x := by
  rcases h with h | ⟨e, h⟩
  · exact .inl h
  · refine .inr ⟨e, fun k z => ?_⟩
    by_cases c : k = i
    · rw [c]
      exact m
    · exact h k (by omega)
theorem VW.fin {ts : List Str} {x0 x : Str} (h : VW ts x0 20 x) (l : ts.length < 20) : Nm x ∧ x ∉ ts := by
  rcases h with h | ⟨_, h⟩
  · exact h
  · exact absurd h (vS_free l)
theorem vS_val (i : Nat) : ("v" : Str) ++ Str.ofString (toString (0 + (i : Int))) = vS i := by
  rw [Int.zero_add]
  rfl
theorem not_in {x : Str} {l : List Str} (c : (!inV (.str x) (l.map V.str)) = true) : x ∉ l := by
  rw [inV_strs] at c
  exact fun m => by
    rw [decide_eq_true m] at c
    cases c
theorem is_in {x : Str} {l : List Str} (c : ¬ (!inV (.str x) (l.map V.str)) = true) : x ∈ l := by
  rw [inV_strs] at c
  exact Decidable.byContradiction fun m => c (by rw [decide_eq_false m]; rfl)
theorem inv_t {x : Str} {l : List Str} (c : inV (.str x) (l.map V.str) = true) : x ∈ l := by
  rw [inV_strs] at c
  exact of_decide_eq_true c
theorem inv_f {x : Str} {l : List Str} (c : ¬ inV (.str x) (l.map V.str) = true) : x ∉ l := by
  rw [inV_strs] at c
  exact fun m => c (decide_eq_true m)

section
open NdefX PySem.Calls
/-- the wrapper of ValueError.__init__ is called on an exception in the making -/
theorem mw_run {X : Cx} {pins : List (Addr × Obj)} {σ : L2.St} {H : Hp} {s : Shared} {E : Value → Shared → Prop} {u x C : Addr} {us : List Value} {Q : Value → Shared → Prop} (T : OexC X.K C) (I : Inv X pins σ H s) (e : H x = some (exo x C none))
    (hu : s.heap.get? u = some (PySem.W.kxs_mw "ValueError.__init__" x)) (hl : us.length ≤ sizeLine) (h : ∀ s', Inv X pins σ H s' → Q .none s') : wpAny (model X.prog X.w) X.A (call (.ref u) us) Q E s := by
  obtain ⟨nm, q, N, bs, bm, sn, sub, ab, col, dd, k0, k1, k2, k3, k5, hC, hbm⟩ := T.cls
  obtain ⟨t1, ho⟩ := exo_at I.hok e
  obtain ⟨hp, g, d, t, os⟩ := s
  refine wpAny_call (codeAny_of_tree ?_)
  show wpAny _ X.A.in1 (callAny (.ref u) ⟨us, []⟩) _ _ _
  simp only [callAny]
  refine wpAny_bind (wpAny_load hu ?_)
  have nz : (Value.type "method-wrapper" == Value.type "method" || Value.type "method-wrapper" == Value.type "builtin_function_or_method" || Value.type "method-wrapper" == Value.type "method-wrapper") = true := by decide
  simp only [PySem.W.kxs_mw, nz, if_true]
  refine PySem.W.KFB.if_so (by decide) ?_
  have fb := F.excBase_ValueError
  refine wpAny_bind (PySem.W.check_bound_init fb.toExcCallFacts (I.kIn _ _ hC) ho rfl ?_)
  refine wpAny_bind (wpAny_pure (wpAny_pure ⟨plainId_quiet fb.init.plain _, codeAny_builtin fb.initEntry ?_⟩))
  rw [Around.under_plainId fb.init.plain _]
  refine PySem.W.exc_init_tree (cls := .ref C) (t0 := t1) (dv := none) (c2 := .none) (c3 := .none) (b4 := .bool false) ho hl fun h' k hx _ => ?_
  have J := I.write (t' := t) (x := x) (e := x) (o := exo x C none) (by rw [e]; exact True.intro) (.inl rfl) k ⟨_, hx⟩ (exo_ok hx)
  have eu : upd H x (exo x C none) = H := funext fun b => by
    by_cases hb : b = x
    · rw [hb, upd_same, e]
    · rw [upd_ne hb]
  rw [eu] at J
  exact h _ J
theorem mw_with {M : Model} {A : Around} {E : Value → Shared → Prop} {s : Shared} {i : String} {u x : Addr} {pos : Pos} {env : Env} {e : Expr} {rest : List Expr} {Q : Value → Shared → Prop}
    (h : wpAny M A (spliced (backTo pos (starEach (e :: rest) env))) (fun vs s₁ => PySem.W.KxsAt i u x s₁.heap ∧ wpAny M A (call (.ref u) vs) Q E s₁) E s)
    (he : starEach (e :: rest) env = (false, eval e env) :: starEach rest env) (hpl : (backTo pos (starEach rest env)).any (·.1) = false) :
    wpAny M A (callWith pos (.ref u) [] (backTo pos (starEach (e :: rest) env)) []) Q E s := by
  rw [he] at h ⊢
  exact PySem.W.kxs_callWith (i := i) (x := x) (by show (false || (backTo pos (starEach rest env)).any (·.1)) = false; rw [hpl]; rfl) (evalArgs_plain h)

/-- a def of a class's body that begins with super().__init__(e ..), then goes on; the class at C closes over it by the cell at cc -/
theorem fn_super {CX : CXT} {P : Program} {w : World} {K : PySem.W.Frag} {mg : Str → Option Value} {base : Heap} {k : Nat} {f cc C cda : Addr} {name qual : Str} {params : Arguments} {scope : Scope} {dV kV doc pm ct oc cl ccl : Value} {an od cld cdd : Option Addr}
    {osl csl ccs : Array (Option Value)} {N ps : List Str} {sp : Sp} {e : Expr} {es : List Expr} {rest : List Stmt} {p0 p1 p2 p3 p4 : Pos} {vs2 : Array Value} {file : Str} {tf : Tok} {ar : Arg}
    (lk : K.lookup f = some ⟨oc, od, .func (PySem.W.ksFn name qual params (.Expr (.Call (.Attribute (.Call (.Name "super" p0) [] [] p1) "__init__" p2) (e :: es) [] p3) p4 :: rest) scope dV kV doc pm an (.ref cda) ct cc), osl⟩)
    (hcd : PySem.W.codeIn K (.ref cda) qual = true) (hcode : K.lookup cda = some ⟨ccl, cdd, .fields vs2, ccs⟩) (hvs : vs2[2]? = some (.str file tf)) (hfile : ((P.main.file : Str) == file) = true)
    (hcell : K.lookup cc = some ⟨cl, cld, .cell (some (.ref C)), csl⟩) (T : OexC K C) (hsup : PySem.W.ks_superIn K C C "__init__" = some (some (.builtin "ValueError.__init__")))
    (hB : PySem.W.subIn K (.ref C) (.type "ValueError") = some true) (hself : PySem.W.mroIn K C (.ref C) = some true) (hop : PySem.W.nsIn K cStatics "thirdparty.any" = some none)
    (hsn : mg "super" = none) (htop : (P.main.scope.names.lookup ("super" : Str)).isSome = false) (hp : (params.posonlyargs ++ params.args).head? = some ar) (hps : ps[0]? = some ar.arg)
    (S : NScope N ps ["__class__"] scope) (hks : scope.names.lookup ("super" : Str) = some .globalImplicit) (len : ∀ vs H Q E, sp vs H Q E → vs.length = ps.length)
    (hbody : ∀ (A : Around) (outer : List Env) (s : Shared) (H : Hp) (vs : List V) (Q : VK) (E : XK), Room k (A.deeper (envF ⟨name, qual, params, .Expr (.Call (.Attribute (.Call (.Name "super" p0) [] [] p1) "__init__" p2) (e :: es) [] p3) p4 :: rest, scope, [("__class__", cc)], cda⟩ f s.heap.objs.size)) → sp vs H Q E →
      ∃ ta t x, PA (ncx CX P w K mg base N ⟨name, qual, params, .Expr (.Call (.Attribute (.Call (.Name "super" p0) [] [] p1) "__init__" p2) (e :: es) [] p3) p4 :: rest, scope, [("__class__", cc)], cda⟩ f A outer s H E) (e :: es) ta ∧
        PSs (ncx CX P w K mg base N ⟨name, qual, params, .Expr (.Call (.Attribute (.Call (.Name "super" p0) [] [] p1) "__init__" p2) (e :: es) [] p3) p4 :: rest, scope, [("__class__", cc)], cda⟩ f A outer s H E) rest t ∧
        vs[0]? = some (.ref x) ∧ H x = some (exo x C none) ∧
        ta (startF N vs [none]) H fun ws H1 => ws.length ≤ 1000 ∧ H1 x = some (exo x C none) ∧ t { nx := fun _ H' => Q .non H', rt := Q } (startF N vs [none]) H1)
    (he : ∀ env : Env, starEach (e :: es) env = (false, eval e env) :: starEach es env) (hpl : ∀ env : Env, (backTo p3 (starEach es env)).any (·.1) = false)
    (hev : ∀ env : Env, ∃ pl : Sem Bool, eval (.Call (.Attribute (.Call (.Name "super" p0) [] [] p1) "__init__" p2) (e :: es) [] p3) env = (do
      let ov ← attributeBase (.Call (.Name "super" p0) [] [] p1) "__init__" env (eval (.Call (.Name "super" p0) [] [] p1) env)
      standAt p2.atName
      let (f, first) ← holding [ov] (getMethod ov "__init__" pl)
      callWith p3 f first (backTo p3 (starEach (e :: es) env)) []))
    (hsw : ∀ env : Env, swapsWith (.Call (.Attribute (.Call (.Name "super" p0) [] [] p1) "__init__" p2) (e :: es) [] p3) none p4.line env = pure false) :
    FnOk P w K mg base CX (k + 1) f (PySem.W.ksFn name qual params (.Expr (.Call (.Attribute (.Call (.Name "super" p0) [] [] p1) "__init__" p2) (e :: es) [] p3) p4 :: rest) scope dV kV doc pm an (.ref cda) ct cc) ps sp := by
  generalize hbd : (Stmt.Expr (.Call (.Attribute (.Call (.Name "super" p0) [] [] p1) "__init__" p2) (e :: es) [] p3) p4 :: rest) = bd at lk hbody ⊢
  refine ⟨len, fun A outer s H args us vs Q E hr e0 hb r hsp => ?_⟩
  have KX : K.In s.heap := e0.mod.kin.keeps fun b o e => (e0.bs b o e).1
  have hl := len _ _ _ _ hsp
  have lim : s.heap.NoLimit := e0.mod.nolimit.keeps fun b o e => (e0.bs b o e).1
  obtain ⟨ta, t, x, hta, ht, hv0, hx, hq⟩ := hbody A outer s H vs Q E (hr.deeper _) hsp
  have hself0 : scope.names.lookup ar.arg = some .local := S.par _ (List.mem_of_getElem? hps)
  refine PySem.ks_codeAny_call_defAt (fd := PySem.W.ksFn name qual params bd scope dV kV doc pm an (.ref cda) ct cc) hr.depth (KX _ _ lk) rfl lim (PySem.W.codeRec_of KX hcd) rfl hb S.nocell (fun ⟨n, _⟩ hy => S.par n (List.of_mem_zip hy).1) (fun h₁ hns kp => ?_) S.co S.gen S.kind
  have cin := e0.mod.kin _ _ hcell
  have Cc : CellsAt [(("__class__" : Str), cc)] ["__class__"] [none] s.heap H := by
    have lkc : ∀ (y : Str) (c : Addr), List.lookup y [(("__class__" : Str), cc)] = some c → y = "__class__" ∧ c = cc := fun y c z => by
      simp only [List.lookup] at z
      split at z
      · rename_i g
        exact ⟨by simpa using g, (Option.some.inj z).symm⟩
      · cases z
    refine ⟨rfl, fun y c z => ?_, fun y z c h1 h2 => (lkc y c h1).1.trans (lkc z c h2).1.symm, fun i y hi => ?_⟩
    · obtain ⟨_, rfl⟩ := lkc y c z
      exact ⟨(e0.bs _ _ cin).2, _, _, (e0.bs _ _ cin).1, rfl⟩
    · cases i with
      | zero =>
        obtain rfl : "__class__" = y := Option.some.inj hi
        exact ⟨cc, by simp [List.lookup], fun v z => by cases z⟩
      | succ i => simp at hi
  have I : Inv (ncx CX P w K mg base N ⟨name, qual, params, bd, scope, [("__class__", cc)], cda⟩ f A outer s H E) [] (startF N vs [none]) H { s with heap := h₁, toks := s.toks + (ps.zip us).length } :=
    inv_startN S hr.hd e0 hl r Cc hns kp
  subst hbd
  have Xk : K.In h₁ := I.kIn
  obtain ⟨ux, hux, rvx⟩ := r.get hv0
  obtain rfl : ux = Value.ref x := rvx
  have hkc : scope.names.lookup ("__class__" : Str) = some .free := S.frk _ (List.mem_singleton.mpr rfl)
  obtain ⟨nm, q, Nn, bs, bm, sn, sub, ab, col, dd, k0, k1, k2, k3, k5, hC, hbm⟩ := id T.cls
  have hcl : PySem.W.clsIn K C = some { name := nm, bases := bs, mro := .ref C :: bm, ns := Nn, qualname := q, hasDict := true, slotNames := sn, subclasses := sub, abstract := ab, collection := col, hasDel := false } := by unfold PySem.W.clsIn; rw [hC] <;> rfl
  obtain ⟨t1, ho⟩ := exo_at I.hok hx
  refine PySem.ks_wpAt_execs_cons (PySem.ks_wpAt_Expr_any ?_ (by show (scope.kind == .module && _) = false; rw [S.kind]; rfl) (hsw _))
  obtain ⟨pl, hev⟩ := hev (PySem.W.ksEnv qual scope s.heap.objs.size f (.ref cda) cc)
  refine PySem.ks_wpAt_MethodCall (pl := pl) ?_ hev
  refine PySem.ks_wpAt_super_base hks hkc rfl rfl (Xk _ _ lk) rfl hp rfl (Xk _ _ hcode) rfl hvs hfile htop ?_
  obtain ⟨mb, b1, b2⟩ := I.mod.blt
  refine PySem.W.ks_loadName_global S.kind hks (Calls.loadGlobal_builtin (I.mod.glob.keeps I.bk) hsn (b1.keeps I.bk) ((b2 "super" (by decide)).trans (by first | rfl | kernel_rfl | decide +kernel)) ⟨rfl, ?_⟩)
  refine wpAny_loadName_free S.kind hkc rfl ⟨_, Xk _ _ hcell, rfl⟩ ?_
  refine wpAny_loadName_local S.kind hself0 hns (v := .ref x) (zip_look ?nd hps hux) ?_
  case nd =>
    have z := S.nd.sublist (List.take_sublist (ps.length + 1) N)
    rw [show N.take (ps.length + 1) = ps ++ [("__class__" : Str)] from S.pre] at z
    exact (List.nodup_append.mp z).1
  refine PySem.ks_wpAny_isType_cls (Xk _ _ hC) rfl ⟨rfl, ?_⟩
  refine PySem.ks_wpAny_call_super (Xk _ _ hC) rfl ho rfl (fun c z => by cases z) (PySem.W.looks_mroIn Xk hself) (fun h2 e2 kp2 => ?_)
  have I2 := I.kept (t' := s.toks + (ps.zip us).length) kp2
  obtain ⟨t2, ho2⟩ := exo_at I2.hok hx
  have X2 : K.In h2 := I2.kIn
  have inst : PySem.W.InstAt h2 x ({ cls := .ref C, dict := none, data := .fields #[.ref t2, .none, .none, .none, .bool false, .none] } : Obj) C none := ⟨ho2, rfl, rfl, trivial⟩
  refine PySem.W.kxs_getMethod PySem.W.kxs_ValueError e2 (PySem.W.looks_opaque X2 hop) (l₀ := .ref C :: bm) ((PySem.W.looks_clsIn X2 hcl).andThen .now) (l := ((Value.ref C :: bm).dropWhile (· != .ref C)).drop 1) rfl X2 ?_ (inst.type.andThen (PySem.W.looks_subIn X2 hB)) ?_ (by rfl) ?_
  · unfold PySem.W.ks_superIn at hsup
    rw [hcl] at hsup
    exact hsup
  · exact PySem.W.ks_ne X2 inst hcl
  have up : ∀ b u, h2.get? b = some u → (h2.push (PySem.W.kxs_mw "ValueError.__init__" x)).get? b = some u := fun b u z => Heap.get?_push_of_some _ z
  have I3 := I2.kept (h' := h2.push (PySem.W.kxs_mw "ValueError.__init__" x)) (t' := s.toks + (ps.zip us).length + 1) up
  have hget : (h2.push (PySem.W.kxs_mw "ValueError.__init__" x)).get? h2.objs.size = some (PySem.W.kxs_mw "ValueError.__init__" x) := Heap.get?_push_size _ rfl
  have I4 := I3.pins_of (pins' := [(h2.objs.size, PySem.W.kxs_mw "ValueError.__init__" x)]) fun p hp => by
    obtain rfl := List.mem_singleton.mp hp
    exact ⟨hget, I2.hok.fresh (Nat.le_refl _), Nat.ne_of_gt I2.lt, I2.nofs (Nat.le_refl _), fun v z => by cases z⟩
  refine mw_with (i := "ValueError.__init__") (x := x) ?_ (he _) (hpl _)
  refine thn (hta.run p3 _ _ (startF N vs [none]) H _ I4 hq) fun ws s5 hh => ?_
  obtain ⟨vs5, H5, I5, r5, l5, hx5, q5⟩ := hh
  refine ⟨(I5.pin (h2.objs.size, PySem.W.kxs_mw "ValueError.__init__" x) (List.mem_append_right _ (List.mem_singleton.mpr rfl))).1, ?_⟩
  refine mw_run T I5 hx5 ((I5.pin (h2.objs.size, PySem.W.kxs_mw "ValueError.__init__" x) (List.mem_append_right _ (List.mem_singleton.mpr rfl))).1) (by rw [← Paired.length r5, sizeLine_eq]; omega) fun s6 I6 => ?_
  refine PySem.wpAt_of_wpAny (wpAny_mono (ht.run _ s6 (startF N vs [none]) H5 _ I6 q5) (fun fl s7 hs => ?_) fun e s7 hs => hs)
  have fin : ∀ {σ' : L2.St} {H' : Hp} {v : V} {u : Value} {pp : List (Addr × Obj)}, Inv (ncx CX P w K mg base N ⟨name, qual, params, Stmt.Expr (.Call (.Attribute (.Call (.Name "super" p0) [] [] p1) "__init__" p2) (e :: es) [] p3) p4 :: rest, scope, [("__class__", cc)], cda⟩ f A outer s H E) pp σ' H' s7 → L2.RelV v u → Q v H' → CE outer P w H s Q u s7 :=
    fun J rv q => ⟨_, _, J.os, J.bare, J.base, J.hok, rv, q⟩
  cases fl with
  | ret u => obtain ⟨v, σ', H', J, rv, q⟩ := hs; exact fin J rv q
  | next => obtain ⟨σ', H', J, q⟩ := hs; exact fin (v := V.non) (u := Value.none) J rfl q
  | brk => obtain ⟨_, _, _, q⟩ := hs; exact q.elim
  | cont => obtain ⟨_, _, _, q⟩ := hs; exact q.elim
end

/-! ### an own class of errors with one field -/
structure ErrC (K : PySem.W.Frag) (C a : Addr) (st : Stmt) (qual fld : Str) (fd : FuncData) : Prop where
  ox : OexC K C
  xf : XfC K C
  no : PySem.W.findIn K (.ref C) fld = some none
  ini : PySem.W.findIn K (.ref C) "__init__" = some (some (.ref a))
  ty : PySem.W.typeIn K (.ref a) = some (.type "function")
  fn : ∃ (oc kV doc pm ct ccl cl : Value) (od an cdd cld : Option Addr) (cda cc : Addr) (osl ccs csl : Array (Option Value)) (vs2 : Array Value) (tf : Tok), fd = PySem.W.ksFn "__init__" qual (defArgs st) (defBody st) (defScope st) .none kV doc pm an (.ref cda) ct cc ∧
    K.lookup a = some ⟨oc, od, .func fd, osl⟩ ∧ PySem.W.codeIn K (.ref cda) qual = true ∧ K.lookup cda = some ⟨ccl, cdd, .fields vs2, ccs⟩ ∧ vs2[2]? = some (.str "/claim/cut.py" tf) ∧ K.lookup cc = some ⟨cl, cld, .cell (some (.ref C)), csl⟩ ∧
    PySem.W.ks_superIn K C C "__init__" = some (some (.builtin "ValueError.__init__")) ∧ PySem.W.subIn K (.ref C) (.type "ValueError") = some true ∧ PySem.W.mroIn K C (.ref C) = some true ∧ PySem.W.nsIn K cStatics "thirdparty.any" = some none
/-- the program's file, and that its top has no name super -/
class PrOk (P : Program) : Prop where
  file : ((P.main.file : Str) == "/claim/cut.py") = true
  top : (P.main.scope.names.lookup ("super" : Str)).isSome = false
section
variable {CX : CXT} {P : Program} {w : World} {K : PySem.W.Frag} {mg : Str → Option Value} {base : Heap} {N : List Str} {qual : Str} {scope : Scope} {f : Addr} {cd : Value} {A : Around} {outer : List Env} {s : Shared} {H : Hp} {E : XK}
instance [h : PrOk P] : PrOk (cxOf CX P w K mg base N qual scope f cd A outer s H E).prog := h
instance {X : Cx} [h : PrOk X.prog] : PrOk X.nox.prog := h
instance {X : Cx} [h : PrOk X.prog] {pn : List (Addr × Obj)} {xe : Value → Shared → Prop} : PrOk (X.tr pn xe).prog := h
instance {X : Cx} [h : PrOk X.prog] {a : Addr} {pn : List (Addr × Obj)} : PrOk (X.suite a pn).prog := h
end
/-- X.__init__(self, v) -/
def spErr (C : Addr) (fld : Str) (ok : V → Prop) : Sp := fun vs H Q _ => ∃ x v, vs = [.ref x, v] ∧ H x = some (exo x C none) ∧ ok v ∧ ∀ dx, H dx = none → dx ≠ x → Q .non (upd (upd H dx (exd dx [(fld, v)])) x (exo x C (some dx)))
/-- what raise X(v) asks -/
theorem raise_ok {C : Addr} {fld : Str} {ok : V → Prop} {H1 : Hp} {v : V} {Q : XK} (hv : ok v) (k : ∀ d H', Same H1 H' → H1 d = none → H' d = some (.xd [(fld, v)]) → Q (.ref C) (some d) H') :
    [v].length ≤ 1000 ∧ ∀ a, H1 a = none → spErr C fld ok (.ref a :: ([v] ++ [])) (upd H1 a (exo a C none))
      (fun w H2 => w = .non ∧ ∃ (d : Addr) (fs : List (Str × V)), H2 a = some (exo a C (some d)) ∧ H2 d = some (exd d fs) ∧ H1 d = none ∧ Q (.ref C) (some d) (upd (del H2 a) d (.xd fs))) (fun _ _ _ => False) := by
  refine ⟨by show 1 ≤ 1000; decide, fun a na => ⟨a, v, rfl, upd_same, hv, fun dx nd ne => ⟨rfl, dx, [(fld, v)], upd_same, ?_, ?_, ?_⟩⟩⟩
  · rw [upd_ne ne, upd_same]
  · rw [upd_ne ne] at nd
    exact nd
  · have nd1 : H1 dx = none := by rw [upd_ne ne] at nd; exact nd
    refine k dx _ (fun b o e => ?_) nd1 upd_same
    have b1 : b ≠ dx := ne_of_none e nd1
    have b2 : b ≠ a := ne_of_none e na
    rw [upd_ne b1, del_ne b2, upd_ne b2, upd_ne b1, upd_ne b2]
    exact e
/-! ### try .. except x as n .. else -/
section
variable {X : Cx} {x n : Str} {c : Value} {i : Nat} {body suite orelse : List Stmt} {b1 : Stmt} {q1 q2 q3 : Pos} {tb : WX → TS} {ts : Addr → Value → Option Addr → TS} {Wout : WX} {u : TS}
def tTryE (K : PySem.W.Frag) (c : Value) (i : Nat) (tb : WX → TS) (ts : Addr → Value → Option Addr → TS) (Wout : WX) (u : TS) : TS := fun D σ H => tb (wAs K c i ts Wout D) { D with nx := u D } σ H
theorem ps_try_asE (ho : PSs X orelse u) (hs : X.stack = X.env :: X.outer) (hf : X.env.frame = some X.env.locals) (hN : X.N.Nodup) (hi : X.N[i]? = some n) (hl : X.env.kindOf n = some .local) (hc : Names X x c) (tk : Takes X Wout)
    (hb : ∀ (W : WX) (pn : List (Addr × Obj)) (xe : Value → Shared → Prop), Takes (X.tr pn xe) W → PassesOwn (model X.prog X.w) X.A X.env xe → PSs (X.tr pn xe) body (tb W))
    (hsu : ∀ (a : Addr) (oe : Obj) (cls : Value) (d : Option Addr) (pn : List (Addr × Obj)), Zc cls d oe → (∃ vs, oe.data = .fields vs) → PSs (X.suite a ((a, oe) :: pn)) (b1 :: suite) (ts a cls d)) :
    PS X (.Try body [.ExceptHandler (some (.Name x q1)) (some n) (b1 :: suite) q2] orelse [] q3) (tTryE X.K c i tb ts Wout u) := by
  -- without else first: what the clause does with an exception of the body
  refine ⟨fun pins s σ H D I h => wpAny_Try_except ?_⟩
  have ok := I.ok
  have afr : X.A.frames = some (X.env :: X.outer) := by rw [ok.frames, hs]
  let Ex : Value → Shared → Prop := fun e s₁ => wpAny (model X.prog X.w) X.A (noteFrame e X.env) (fun _ s₂ => wpAny (model X.prog X.w) X.A (setFlight e none) (fun _ s₃ => wpAny (model X.prog X.w) X.A (handleBy e X.env [.ExceptHandler (some (.Name x q1)) (some n) (b1 :: suite) q2]) (SP X pins D) X.xe s₃) X.xe s₂) X.xe s₁
  have catch_ : Takes (X.tr (X.pn ++ pins) Ex) (wAs X.K c i ts Wout D) := by
    rintro _ sh ⟨ea, G, sl, pp, τ, Hτ, cl, dd, rfl, Jt, nb, up, sky, na, os, ag, bo, hbo, hy, hn⟩
    have J := Jt.ofTry ok
    rw [show (X.tr (X.pn ++ pins) Ex).stack = X.env :: X.outer from hs] at sky
    refine Sky.land Zc.steady afr hf sky fun g3 f3 u3 => ?_
    have J3 := J.landed (s' := { sh with heap := g3 }) nb f3.1 (up.trans u3) os ag
    obtain ⟨ob, fv, eb, zb, db⟩ := f3.there
    have far : ea ∉ frs (X.env :: X.outer) := fun hm => by
      obtain ⟨_, o2, e2, k2⟩ := (show g3.FunFrames G (X.env :: X.outer) from f3.2.2.1).mem hm
      rw [eb] at e2
      cases e2
      exact k2 _ db
    have eL : ea ≠ X.env.locals := fun z => far (List.mem_filterMap.mpr ⟨X.env, .head _, by rw [hf, z]⟩)
    have eF : ea ∉ X.fs := fun hm => by
      obtain ⟨v, hv, q⟩ := List.mem_filterMap.mp hm
      exact far (List.mem_filterMap.mpr ⟨v, .tail _ hv, q⟩)
    have S3 := J3.suite eb db na eL eF
    refine wpAny_handleBy_cons (codeAny_handlers_test ?_) (fun q => by cases q)
    have tyE : PySem.W.Looks (model X.prog X.w) g3 (typeOf (.ref ea)) cl := fun _ _ _ _ kk q => wpAny_typeOf_ref (kk _ _ eb) (by rw [zb.1]; exact q)
    have isE := PySem.W.exm_one (M := model X.prog X.w) J3.kIn tyE hbo
    have named : ∀ {Q : Value → Shared → Prop} {E : Value → Shared → Prop}, Q c { sh with heap := g3 } → wpAny (model X.prog X.w) (X.A.mark (some (.ref ea))) (eval (.Name x q1) X.env) Q E { sh with heap := g3 } := fun q => by
      rcases hc with ⟨gl, dbg, hm | ⟨hm, hv, nn⟩⟩
      · exact ld_glob (X := X.suite ea ((ea, ob) :: (X.pn ++ pins))) S3 gl hm q dbg
      · exact ld_blt (X := X.suite ea ((ea, ob) :: (X.pn ++ pins))) S3 gl hm hv q nn dbg
    refine named (isE.here ?_)
    cases bo
    · refine wpAny_handleBy_nil ?_
      obtain ⟨_, _, _, oz, wz, tz, _, _, ez, _, dz, gz, _⟩ := id f3
      have up2 : wpAny (model X.prog X.w) X.A (setFlight (.ref ea) X.env.frame) (fun _ s4 => wpAny (model X.prog X.w) X.A (throw (.ref ea) : Sem Flow) (SP X pins D) X.xe s4) X.xe { sh with heap := g3 } := by
        rw [hf]
        exact HandSPX.setFlight_upZ f3 fun g4 h4 u4 => wpAny_throw (tk _ _ ⟨ea, G, sl, pins, τ, Hτ, cl, dd, rfl, J, nb, (up.trans u3).trans u4, .inr (.inr (by rw [hs]; exact h4)), na, os, ag, hn rfl⟩)
      unfold PySem.passOn
      refine wpAny_bind (wpAny_field ez dz gz ?_)
      rw [if_neg (show ¬ ((Value.ref tz == Value.none) = true) by simp)]
      first | exact wpAny_bind (wpAny_pure (wpAny_bind up2)) | exact wpAny_bind up2
    · refine codeAny_handlers_suite_as (HandSPX.lands_againZ f3 fun g4 f4 u4 => ?_)
      have J4 := J.landed (s' := { sh with heap := g4 }) nb f4.1 ((up.trans u3).trans u4) os ag
      obtain ⟨o4, v4, e4, z4, d4⟩ := f4.there
      refine store_ok (X := X.suite ea ((ea, o4) :: (X.pn ++ pins))) (v := .ref ea) (J4.suite e4 d4 na eL eF) hN hi (.inl hl) rfl (fun s5 S5 => ?_) (.inr hl)
      refine wpAny_mono ((hsu ea o4 cl dd (X.pn ++ pins) z4 ⟨_, d4⟩).run [] s5 _ Hτ _ S5 (hy rfl ea na)) (fun fl s6 hsp => ?_) fun _ _ z => z.elim
      cases fl
      case next => obtain ⟨_, _, S6, q6⟩ := hsp; exact gone_ok (S6.unsuite ok) hN hi hl fun s7 J7 => ⟨_, _, J7, q6⟩
      case brk => obtain ⟨_, _, S6, q6⟩ := hsp; exact gone_ok (S6.unsuite ok) hN hi hl fun s7 J7 => ⟨_, _, J7, q6⟩
      case cont => obtain ⟨_, _, S6, q6⟩ := hsp; exact gone_ok (S6.unsuite ok) hN hi hl fun s7 J7 => ⟨_, _, J7, q6⟩
      case ret w => obtain ⟨_, _, _, S6, r6, q6⟩ := hsp; exact gone_ok (S6.unsuite ok) hN hi hl fun s7 J7 => ⟨_, _, _, J7, r6, q6⟩
  refine wpAny_mono ((hb _ _ Ex catch_ PassesOwn.looking).run [] s σ H { D with nx := u D } (I.toTry _) h) (fun fl s1 hsp => ?_) fun _ _ z => z
  cases fl
  case next => obtain ⟨_, _, J, q⟩ := hsp; exact ho.run pins s1 _ _ D (J.ofTry ok) q
  case brk => obtain ⟨_, _, J, q⟩ := hsp; exact ⟨_, _, J.ofTry ok, q⟩
  case cont => obtain ⟨_, _, J, q⟩ := hsp; exact ⟨_, _, J.ofTry ok, q⟩
  case ret w => obtain ⟨_, _, _, J, r, q⟩ := hsp; exact ⟨_, _, _, J.ofTry ok, r, q⟩
end
section
variable {X : Cx} {x n : Str} {c : Value} {i : Nat} {body suite : List Stmt} {b1 : Stmt} {q1 q2 q3 : Pos} {tb : WX → TS} {ts : Addr → Value → Option Addr → TS} {Wout : WX}
def tTryA (K : PySem.W.Frag) (c : Value) (i : Nat) (tb : WX → TS) (ts : Addr → Value → Option Addr → TS) (Wout : WX) : TS := fun D σ H => tb (wAs K c i ts Wout D) D σ H
theorem ps_try_asN (hs : X.stack = X.env :: X.outer) (hf : X.env.frame = some X.env.locals) (hN : X.N.Nodup) (hi : X.N[i]? = some n) (hl : X.env.kindOf n = some .local) (hc : Names X x c) (tk : Takes X Wout)
    (hb : ∀ (W : WX) (pn : List (Addr × Obj)) (xe : Value → Shared → Prop), Takes (X.tr pn xe) W → PassesOwn (model X.prog X.w) X.A X.env xe → PSs (X.tr pn xe) body (tb W))
    (hsu : ∀ (a : Addr) (oe : Obj) (cls : Value) (d : Option Addr) (pn : List (Addr × Obj)), Zc cls d oe → (∃ vs, oe.data = .fields vs) → PSs (X.suite a ((a, oe) :: pn)) (b1 :: suite) (ts a cls d)) :
    PS X (.Try body [.ExceptHandler (some (.Name x q1)) (some n) (b1 :: suite) q2] [] [] q3) (tTryA X.K c i tb ts Wout) := ps_try_as hs hf hN hi hl hc tk hb hsu
end
/-! ### calls that may raise, wished for at the caller's slots -/
section
variable {X : Cx} {CX : CXT} {k : Nat} {f C : Addr} {fd : FuncData} {ps : List Str} {sp : Sp} {dvs : List V} {ds : List Value} {E : L2.St → XK} {x m : Str} {p pos apos : Pos} {e o : Expr} {es : List Expr} {ta : TE} {t : TA}
def tMethT (C : Addr) (m : Str) (sp : Sp) (dvs : List V) (E : L2.St → XK) (ta : TE) (t : TA) : TE := fun σ H Q => ta σ H fun x H1 => ∃ a dx fs, x = .ref a ∧ H1 a = some (.ins C dx fs) ∧ fs.lookup m = none ∧ t σ H1 fun vs H2 => sp (x :: (vs ++ dvs)) H2 Q (E σ)
theorem pe_methT {pl : Sem Bool} (he : PE X o ta) (c : Cls X.K C) (hm : Meth X.K C m f) (F : FnOk X.prog X.w X.K X.mg X.base CX k f fd ps sp) (hr : Room k X.A) (hb : Binds X.K fd ps ds) (hd : Vals dvs ds) (hx : ∀ σ, PassesAt CX X σ (E σ)) (ha : PA X (e :: es) t)
    (hst : starEach (e :: es) X.env = (false, eval e X.env) :: starEach es X.env := by rfl) (hpl : (backTo pos (starEach es X.env)).any (·.1) = false := by rfl)
    (ht : eval (.Call (.Attribute o m apos) (e :: es) [] pos) X.env = (eval o X.env >>= fun ov => standAt apos.atName >>= fun _ => holding [ov] (getMethod ov m pl) >>= fun z => callWith pos z.1 z.2 (backTo pos (starEach (e :: es) X.env)) (backToKw pos (keywordEach [] X.env))) := by rfl) :
    PE X (.Call (.Attribute o m apos) (e :: es) [] pos) (tMethT C m sp dvs E ta t) := by
  refine ⟨fun pins s σ H Q I h => PySem.W.methodCall_KW (pl := pl) (thn (he.run pins s σ H _ I h) fun w s1 hh => ?_) ht⟩
  obtain ⟨_, H1, I1, rx, a, dx, fs, rfl, ea, l, q⟩ := hh
  cases (show w = Value.ref a from rx)
  refine getmeth_ok I1 ea c hm l (PySem.W.callWith_K (first := [.ref a]) (h₀ := X.base) I.ok.mod.kin hm.kp (thn (ha.run pos pins s1 σ H1 _ I1 q) fun us s2 h2 => ?_) hst hpl)
  obtain ⟨vs, H2, I2, r, q2⟩ := h2
  exact ⟨I2.kIn, run_fnSD (us := .ref a :: us) (vs := .ref a :: vs) F hr hb hd (hx σ) I2 (.cons rfl r) q2⟩
def tMakeT (C : Addr) (sp : Sp) (dvs : List V) (E : L2.St → XK) (t : TA) : TE := fun σ H Q => t σ H fun vs H1 => ∀ x dx, H1 x = none → H1 dx = none → dx ≠ x → sp (.ref x :: (vs ++ dvs)) (upd (upd H1 dx (.own x)) x (.ins C dx [])) (fun v H2 => v = .non ∧ Q (.ref x) H2) (E σ)
theorem pe_makeT (M : Mk X.K C f) (F : FnOk X.prog X.w X.K X.mg X.base CX k f fd ps sp) (hr : Room (k + 1) X.A) (hg : Gl X x) (hm : X.mg x = some (.ref C)) (hb : Binds X.K fd ps ds) (hd : Vals dvs ds) (hx : ∀ σ, PassesAt CX X σ (E σ))
    (ha : PA X (e :: es) t) (hdb : (x == ("__debug__" : Str)) = false := by decide) (he : starEach (e :: es) X.env = (false, eval e X.env) :: starEach es X.env := by rfl) (hpl : (backTo pos (starEach es X.env)).any (·.1) = false := by rfl) :
    PE X (.Call (.Name x p) (e :: es) [] pos) (tMakeT C sp dvs E t) := by
  refine ⟨fun pins s σ H Q I h => wpAny_Call_Name_kw (ld_glob I hg hm (PySem.W.callWith_K (h₀ := X.base) I.ok.mod.kin M.kp (thn (ha.run pos pins s σ H _ I h) fun us s1 hh => ?_) he hpl) hdb)⟩
  obtain ⟨vs, H1, I1, r, q⟩ := hh
  refine ⟨I1.kIn, ?_⟩
  have q' := q (s1.heap.objs.size + 1) s1.heap.objs.size (I1.hok.fresh (Nat.le_succ _)) (I1.hok.fresh (Nat.le_refl _)) (Nat.ne_of_lt (Nat.lt_succ_self _))
  have made := Inv.made (C := C) I1
  have rr : Vals (V.ref (s1.heap.objs.size + 1) :: (vs ++ dvs)) (Value.ref (s1.heap.objs.size + 1) :: (us ++ ds)) := .cons rfl (r.append hd)
  have ln := rr.length
  rw [F.len _ _ _ _ q'] at ln
  have bb := hb _ (Value.ref (s1.heap.objs.size + 1) :: us) made.kIn ln.symm
  have run := F.run _ X.stack _ _ ⟨Value.ref (s1.heap.objs.size + 1) :: us, []⟩ _ _ _ (E σ) (hr.make C us []) (made.env0.make C us []) bb rr q'
  refine wpAny_call (make_map (f := f) I1.kIn M.makes M.init (beq_iff_eq.mp M.fn) (codeAny_mono run fun res s' hres => ?_))
  rcases res with er | fl
  · exact hx σ pins _ _ er s' made hres
  · cases fl
    case ret w =>
      obtain ⟨_, H', I3, rv, rfl, q3⟩ := made.after hres
      exact ⟨rv, V.ref (s1.heap.objs.size + 1), H', I3, rfl, q3⟩
    all_goals exact hres.elim
end

/-! ### defs called while an exception is handled (they raise nothing) -/
structure FnQ (P : Program) (w : World) (K : PySem.W.Frag) (mg : Str → Option Value) (base : Heap) (k : Nat) (f : Addr) (fd : FuncData) (ps : List Str) (sp : Sp) : Prop where
  size : ∀ vs H Q E, sp vs H Q E → vs.length = ps.length
  runs : ∀ (A : Around) (outer : List Env) (s : Shared) (H : Hp) (args : Args) (us : List Value) (vs : List V) (Q : VK) (E : XK), L2H.RoomH k A → Env0 P w K mg base A outer s H → BindsTo s fd args (ps.zip us) → Vals vs us → sp vs H Q E → codeAny (model P w) A (.call (.ref f) args) (CR CX0 outer P w H s Q E) s
def cxQ (P : Program) (w : World) (K : PySem.W.Frag) (mg : Str → Option Value) (base : Heap) (N : List Str) (qual : Str) (scope : Scope) (f : Addr) (cd : Value) (A : Around) (outer : List Env) (s : Shared) (H : Hp) (E : XK) : Cx :=
  { cxOf CX0 P w K mg base N qual scope f cd A outer s H E with calm := false }
instance {P : Program} {w : World} {K : PySem.W.Frag} {mg : Str → Option Value} {base : Heap} {N : List Str} {qual : Str} {scope : Scope} {f : Addr} {cd : Value} {A : Around} {outer : List Env} {s : Shared} {H : Hp} {E : XK} [h : PrOk P] : PrOk (cxQ P w K mg base N qual scope f cd A outer s H E).prog := h
theorem inv_cold {P : Program} {w : World} {K : PySem.W.Frag} {mg : Str → Option Value} {base : Heap} {N : List Str} {qual : Str} {scope : Scope} {f : Addr} {cd : Value} {A : Around} {outer : List Env} {s s1 : Shared} {H H1 : Hp} {E : XK} {pins : List (Addr × Obj)} {σ : L2.St}
    (I : Inv (cxOf CX0 P w K mg base N qual scope f cd { A with handled := none } outer s H E) pins σ H1 s1) (fr : A.frames = some outer) : Inv (cxQ P w K mg base N qual scope f cd A outer s H E) pins σ H1 s1 :=
  have o := I.ok
  ⟨⟨o.mod, o.kind, o.glob, o.blt, o.above, o.inj, o.has, o.cab, fun z => Bool.noConfusion (show false = true from z), Around.frames_deeper fr, o.stk, o.exf, o.bs, o.bsz, o.noex, o.exfs, o.funs, o.frf⟩, I.os, I.bare, I.base, I.loc, I.cell, I.free, I.freeC, I.pin, I.hok, I.len⟩
theorem fun_okQ {P : Program} {w : World} {K : PySem.W.Frag} {mg : Str → Option Value} {base : Heap} {x qual : Str} {st : Stmt} {f : Addr} {fd : FuncData} {N ps : List Str} {k : Nat} {sp : Sp} (F : Fun K x qual st f fd) (S : FnScope N ps (defScope st)) (len : ∀ vs H Q E, sp vs H Q E → vs.length = ps.length)
    (hbody : ∀ (cdv : Value) (A : Around) (outer : List Env) (s : Shared) (H : Hp) (vs : List V) (Q : VK) (E : XK), L2H.RoomH k (A.deeper (envOfC qual (defScope st) s.heap.objs.size f cdv)) → sp vs H Q E →
      ∃ t, PSs (cxQ P w K mg base N qual (defScope st) f cdv A outer s H E).nox (defBody st) t ∧ t { nx := fun _ H' => Q .non H', rt := Q } (start N vs) H) : FnQ P w K mg base (k + 1) f fd ps sp := by
  obtain ⟨a1, a2, a3, a4, a5, a6, cv, a7, a8, rfl, at_, code⟩ := F.ex
  refine ⟨len, fun A outer s H args us vs Q E hr e0 hb r h => ?_⟩
  have Kin : K.In s.heap := e0.mod.kin.keeps fun b o e => (e0.bs b o e).1
  have free : s.heap.NoLimit := e0.mod.nolimit.keeps fun b o e => (e0.bs b o e).1
  refine codeAny_call_function hr.depth (Kin _ _ at_) rfl S.co S.gen rfl (PySem.W.codeRec_of Kin code) (hb _ _ _ _ (wpAny_newFunctionEnv_cells S.kind (fun y hy => ?_) fun env he s1 z => ?_))
  · obtain ⟨n, v⟩ := y
    exact (S.par n (List.of_mem_zip hy).1).imp id fun q => ⟨q, PySem.W.cellsFrom_some _ _ _ (.inl q)⟩
  · subst he
    obtain ⟨t, ht, hq⟩ := hbody cv A outer s H vs Q E (hr.deeper _) h
    have e1 : Env0 P w K mg base { A with handled := none } outer s H := ⟨e0.frames, e0.mod, e0.bs, e0.bsz, e0.funs, e0.frf, e0.hok, e0.bare⟩
    have J := inv_cold (inv_start (CX := CX0) (E := E) (f := f) (cd := cv) S rfl e1 (len _ _ _ _ h) r z) e0.frames
    refine ⟨free.keeps z.toInCall.keep, codeAny_func (wpAny_mono (ht.nox.run [] s1 (start N vs) H _ J hq) (fun fl s2 hs => ?_) fun _ _ y => y)⟩
    cases fl
    case ret u => obtain ⟨v, _, H', J2, rv, q⟩ := hs; exact ⟨v, H', J2.os, J2.bare, J2.base, J2.hok, rv, q⟩
    case next => obtain ⟨_, H', J2, q⟩ := hs; exact ⟨V.non, H', J2.os, J2.bare, J2.base, J2.hok, (rfl : RelV V.non Value.none), q⟩
    case brk => obtain ⟨_, _, _, q⟩ := hs; exact q.elim
    case cont => obtain ⟨_, _, _, q⟩ := hs; exact q.elim
section
variable {X : Cx} {k : Nat} {f : Addr} {fd : FuncData} {ps : List Str} {sp : Sp} {x : Str} {q pos : Pos} {e : Expr} {es : List Expr} {t : TA}
def tTru (K : PySem.W.Frag) (ta : TE) : TT := fun σ H Q => ta σ H fun x H' => ∃ b, TruV K x H' b ∧ Q b H'
theorem pt_tru {a : Expr} {ta : TE} {ea : Addr} {pn : List (Addr × Obj)} (ha : PE (X.suite ea pn) a ta) (he : ∀ whole, isTrue a X.env whole = (whole >>= fun v => standAt a.pos >>= fun _ => holding [v] (truthy v))) : PT (X.suite ea pn) a (tTru X.K ta) := pt_truth (X := X.suite ea pn) ha he
theorem pe_fldS {o : Expr} {ta : TE} {g : Str} {ea : Addr} {pn : List (Addr × Obj)} {q0 : Pos} (h : PE (X.suite ea pn) o ta) (hb : attributeBase o g X.env (eval o X.env) = eval o X.env) : PE (X.suite ea pn) (.Attribute o g q0) (tFld X.K ta g) := pe_fld (X := X.suite ea pn) h hb
theorem roomS {X : Cx} {a : Addr} {pn : List (Addr × Obj)} {i j : Nat} (h : Room j X.A) (le : i ≤ j) : L2H.RoomH i (X.suite a pn).A := ⟨(h.mono le).dp, (h.mono le).un⟩
def tCallQ (sp : Sp) (t : TA) : TE := fun σ H Q => t σ H fun vs H1 => sp vs H1 Q (fun _ _ _ => False)
theorem pe_callQ (F : FnQ X.prog X.w X.K X.mg X.base k f fd ps sp) (hr : L2H.RoomH k X.A) (hg : Gl X x) (hm : X.mg x = some (.ref f)) (hk : PySem.W.keepIn X.K (.ref f) = true) (hb : Binds X.K fd ps [])
    (ha : PA X (e :: es) t) (hdb : (x == ("__debug__" : Str)) = false := by decide) (he : starEach (e :: es) X.env = (false, eval e X.env) :: starEach es X.env := by rfl) (hpl : (backTo pos (starEach es X.env)).any (·.1) = false := by rfl) :
    PE X (.Call (.Name x q) (e :: es) [] pos) (tCallQ sp t) := by
  refine ⟨fun pins s σ H Q I h => wpAny_Call_Name_kw (ld_glob I hg hm (PySem.W.callWith_K (h₀ := X.base) I.ok.mod.kin hk (thn (ha.run pos pins s σ H _ I h) fun us s1 hh => ?_) he hpl) hdb)⟩
  obtain ⟨vs, H1, I1, r, q1⟩ := hh
  have b := hb s1 us I1.kIn (by rw [List.append_nil, ← r.length]; exact F.size _ _ _ _ q1)
  rw [List.append_nil] at b
  refine ⟨I1.kIn, wpAny_call (codeAny_mono (F.runs X.A X.stack s1 H1 ⟨us, []⟩ us vs Q (fun _ _ _ => False) hr I1.env0 b r q1) fun res s2 hres => ?_)⟩
  rcases res with er | fl
  · exact hres.elim
  · cases fl
    case ret u => exact I1.after hres
    all_goals exact hres.elim
end
theorem exm_sup {K : PySem.W.Frag} {S B : Addr} (h1 : PySem.W.subIn K (.ref B) (.type "BaseException") = some true) (h2 : PySem.W.isClsIn K B = true) (h3 : PySem.W.typeIn K (.ref B) = some (.type "type")) (h4 : PySem.W.subIn K (.ref S) (.ref B) = some true) :
    PySem.W.exmOne K (.ref S) (.ref B) = some true := by
  unfold PySem.W.exmOne
  have e1 : (PySem.W.subIn K (.ref B) (.type "BaseException") == some true) = true := by rw [h1] <;> rfl
  have e2 : ((PySem.W.clsIn K B).isSome && PySem.W.typeIn K (.ref B) == some (.type "type")) = true := by
    rw [show (PySem.W.clsIn K B).isSome = true from h2, h3] <;> rfl
  rw [if_pos e1]
  show (if ((PySem.W.clsIn K B).isSome && PySem.W.typeIn K (.ref B) == some (.type "type")) = true then PySem.W.subIn K (.ref S) (.ref B) else none) = some true
  rw [if_pos e2]
  exact h4
theorem exm_self {K : PySem.W.Frag} {S : Addr} (h1 : PySem.W.subIn K (.ref S) (.type "BaseException") = some true) (h2 : PySem.W.isClsIn K S = true) (h3 : PySem.W.typeIn K (.ref S) = some (.type "type")) (h4 : PySem.W.subIn K (.ref S) (.ref S) = some true) :
    PySem.W.exmOne K (.ref S) (.ref S) = some true := exm_sup h1 h2 h3 h4
/-! ### isinstance of a caught error -/
structure ErrI (K : PySem.W.Frag) (D : Addr) : Prop where
  ha : PySem.W.findIn K (.ref D) "__class__" = some (some (.builtin "object.__class__"))
  hn : PySem.W.specialIn K (.builtin "object.__class__") "__get__" = some (some (.builtin "getset_descriptor.__get__"))
  ht : PySem.W.takesIn K (.builtin "object.__class__") = some true
  hm : PySem.W.mroIn K D (.type "object") = some true
section
open PySem.W PySem.Calls
variable {prog : Program} {w : World} {A : Around} {E : Value → Shared → Prop} {s : Shared} {K : Frag} {x D : Addr} {ox : Obj} {od : Option Obj}
theorem exc_class {Q : Option Value → Shared → Prop} (T : OexC K D) (F : XfC K D) (Y : ErrI K D) (X : K.In s.heap) (J : InstAt s.heap x ox D od) (h : Q (some (.ref D)) { s with toks := s.toks + 1 }) : wpAny (model prog w) A (getAttr? (.ref x) "__class__") Q E s := by
  have bound : findObj K D od "__class__" = some (.bind (.builtin "getset_descriptor.__get__") (.builtin "object.__class__")) := by
    obtain ⟨_, _, _, _, _, _, _, _, _, _, _, _, _, _, _, at_, _⟩ := T.cls
    unfold findObj clsIn
    rw [at_]
    simp only [Option.bind_some, Y.ha, Y.hn, Y.ht]
  obtain ⟨g0, a0, d0, t0, o0⟩ := s
  have ty := J.type (M := model prog w); have ga := looks_findIn (M := model prog w) X F.ga; have gg := looks_findIn (M := model prog w) X F.gg; have fd := looks_find (M := model prog w) X J bound
  have below : Looks (model prog w) g0 (isInstance (.ref x) (.type "BaseException")) true := ty.andThen (looks_subIn X F.exC)
  have b2 : (Value.builtin "BaseException.__getattribute__" == Value.builtin "object.__getattribute__") = false := by decide +kernel
  unfold getAttr? getAttrBy? getAttrBy
  refine wpAny_bind (wpAny_mkText (wpAny_bind (wpAny_attempt (wpAny_holding (wpAny_bind (ty.at (wpAny_bind (ga.at ?_))))))))
  show wpAny _ _ (ite ((onTheHeap (Value.ref D) && Value.builtin "BaseException.__getattribute__" == Value.builtin "object.__getattribute__") = true) _ _) _ _ _
  rw [b2, Bool.and_false, if_neg Bool.false_ne_true]
  unfold getAttrByItsOwn hookBefore; refine wpAny_bind ?_; rw [if_pos (show onTheHeap (Value.ref D) = true from rfl)]
  refine gg.at (wpAny_bind (wpAny_attempt (wpAny_holding ?_)))
  unfold callGetattribute; rw [show (false && onTheHeap (Value.builtin "BaseException.__getattribute__")) = false from rfl, if_neg Bool.false_ne_true]
  unfold boundAndCalled; rw [PySem.F.excAttr_ValueError.ga.bind (.ref x)]; refine wpAny_bind (wpAny_pure ?_)
  show wpAny _ _ (call (.builtin "BaseException.__getattribute__") [.ref x, .str "__class__" t0]) _ _ _
  refine wpAny_call (codeAny_call_builtin PySem.F.excAttr_ValueError.ga.plain PySem.F.entry_bexc_ga (@check_slot (model prog w) _ _ ⟨g0, a0, d0, t0 + 1, o0⟩ "BaseException.__getattribute__" "BaseException" "__getattribute__" (.ref x) [.str "__class__" t0] [] _ (by decide +kernel) (by decide +kernel) below (PySem.F.args_bexc_ga (.ref x) (.str "__class__" t0)) ?_))
  unfold Builtin.«object.__getattribute__»; refine wpAny_bind (wpAny_of_eq (a := ((Value.ref x : Value), [Value.str "__class__" t0])) (by first | rfl | (simp only [slotArgs]; rfl)) ?_)
  refine wpAny_bind (wpAny_pure (wpAny_bind (ty.at (wpAny_bind (fd.at ?_))))); show wpAny _ _ (holding [Value.builtin "object.__class__"] (call (.builtin "getset_descriptor.__get__") [.builtin "object.__class__", .ref x, .ref D]) >>= ret) _ _ _
  refine wpAny_bind (wpAny_holding (wpAny_call (class_get (s := ⟨g0, a0, d0, t0 + 1, o0⟩) X J Y.hm (wpAny_pure ?_)))); show wpAny _ _ (handedOut (.ref D)) _ _ _; rw [handedOut_of (v := .ref D) rfl]
  first | exact wpAny_pure (wpAny_pure h) | exact wpAny_pure h | exact wpAny_pure (wpAny_bind (wpAny_pure (wpAny_pure h)))
theorem kitx_err (T : OexC K D) (F : XfC K D) (Y : ErrI K D) : KitX K (.ref x) (.ref D) (fun h => ∃ od, InstAt h x ox D od) where
  ty := fun _ _ _ ⟨_, J⟩ => J.type
  it := fun _ _ X _ => by
    obtain ⟨_, _, _, _, _, _, _, _, _, _, _, _, _, _, _, at_, _⟩ := T.cls
    intro A' Q' E' s' k q
    exact PySem.ks_wpAny_isType_cls (k _ _ (X _ _ at_)) rfl q
  ne := fun h tp dd its n sl X htp => Bool.eq_false_iff.mpr fun q => by
    obtain ⟨_, _, _, _, _, _, _, _, _, _, _, _, _, _, _, at_, _⟩ := T.cls
    have e : D = tp := Value.ref.inj (beq_iff_eq.mp q)
    subst e
    have z := congrArg Obj.data (Option.some.inj ((X _ _ at_).symm.trans htp))
    cases z
  ca := fun X ⟨_, J⟩ k => exc_class T F Y X J k
theorem kit_own {C : Addr} {b : Bool} (h1 : subIn K (.ref D) (.ref C) = some b) (h2 : isClsIn K C = true) (h3 : typeIn K (.ref C) = some (.type "type")) (h4 : subIn K (.ref D) (.ref D) = some true) : kitOne K (.ref D) (.ref C) = some b := by
  unfold kitOne
  by_cases e : D = C
  · subst e
    rw [if_pos (beq_self_eq_true _), ← h1, h4]
  · rw [if_neg (show ¬ (Value.ref D == Value.ref C) = true from fun z => e (Value.ref.inj (beq_iff_eq.mp z)))]
    show (if ((clsIn K C).isSome && typeIn K (.ref C) == some (.type "type")) = true then subIn K (.ref D) (.ref C) else none) = some b
    rw [show (clsIn K C).isSome = true from h2, h3, if_pos (by rfl)]
    exact h1
theorem kit_val (h : subIn K (.ref D) (.type "ValueError") = some true) : kitOne K (.ref D) (.type "ValueError") = some true := by
  unfold kitOne
  rw [if_neg (show ¬ (Value.ref D == Value.type "ValueError") = true from fun z => by cases beq_iff_eq.mp z)]
  show (if kitMeta "ValueError" = true then subIn K (.ref D) (.type "ValueError") else none) = some true
  rw [if_pos (by decide +kernel)]
  exact h
theorem kit_nil : kitAny K (.ref D) [] = some false := rfl
theorem kit_cons {c : Value} {cs : List Value} {b : Bool} (h : kitOne K (.ref D) c = some false) (r : kitAny K (.ref D) cs = some b) : kitAny K (.ref D) (c :: cs) = some b := by
  unfold kitAny
  rw [h]
  exact r
end
/-- isinstance(e, C) and isinstance(e, (C1, ..)), e the caught error at a -/
def rIsXd (K : PySem.W.Frag) (cls : Value) (d : Option Addr) (a : Addr) : List V → Hp → VK → Prop := fun xs H Q => ∃ (D : Addr) (dd : Addr) (fs : List (Str × V)) (b : Bool), cls = .ref D ∧ d = some dd ∧ OexC K D ∧ XfC K D ∧ ErrI K D ∧ H dd = some (.xd fs) ∧
  ((∃ (c : V) (cv : Value), xs = [.ref a, c] ∧ (∀ u, RelV c u → u = cv) ∧ PySem.W.kitOne K (.ref D) cv = some b) ∨ (∃ (tp : Addr) (cs : List V) (ws : List Value), xs = [.ref a, .ref tp] ∧ H tp = some (.tup cs) ∧ (∀ us, Vals cs us → us = ws) ∧ PySem.W.kitAny K (.ref D) ws = some b)) ∧ Q (.bl b) H
theorem call_isX {X : Cx} {a : Addr} {oe : Obj} {cls : Value} {d : Option Addr} {pn : List (Addr × Obj)} (hz : Zc cls d oe) (hf : ∃ vs, oe.data = .fields vs) : CallR (X.suite a ((a, oe) :: pn)) (.builtin "isinstance") (rIsXd X.K cls d a) := by
  intro pins s σ H xs us Q I r h
  obtain ⟨D, dd, fs, b, rfl, rfl, T, F, Y, hd, way, q⟩ := h
  obtain ⟨hget, _⟩ := I.pin (a, oe) (List.mem_append.mpr (.inl List.mem_cons_self))
  obtain ⟨vs, hv⟩ := hf
  obtain ⟨mA, hns, _⟩ := (show ObjOk X.prog X.w H s.heap dd (.xd fs) from I.hok dd _ hd)
  obtain ⟨od, ho, _⟩ := lookIn_ns hns
  have J : ∃ od, PySem.W.InstAt s.heap a oe D od := ⟨some od, hget, hz.1, by unfold PySem.W.notCls; rw [hv] <;> rfl, by rw [hz.2]; exact ho⟩
  have Z := kitx_err (x := a) (ox := oe) T F Y
  rcases way with ⟨c, cv, rfl, hc, e⟩ | ⟨tp, cs, ws, rfl, ht, hw, e⟩
  · obtain ⟨u1, u2, rfl, r1, r2⟩ := vals2 r
    cases r1
    rw [hc _ r2]
    exact PySem.W.kia_one Z I.kIn J e (fun z => nomatch z) fun tk => ⟨.bl b, H, I.tok tk, rfl, q⟩
  · obtain ⟨u1, u2, rfl, r1, r2⟩ := vals2 r
    cases r1
    cases r2
    obtain ⟨_, its, rv, o, h1, h2, n, h3⟩ := (show ObjOk X.prog X.w H s.heap tp (.tup cs) from I.hok tp _ ht)
    rw [hw _ rv] at h3
    obtain ⟨oc, od', dt, sl⟩ := o
    simp only at h2 h3
    subst h2 h3
    exact PySem.W.kia_tup Z I.kIn J h1 e (fun z => nomatch z) fun tk => ⟨.bl b, H, I.tok tk, rfl, q⟩


/-! ### attributes by their places -/
theorem lk_ix {fs : List (Str × V)} {f : Str} {v : V} (nd : (fs.map (·.1)).Nodup) (i : Nat) (h : fs[i]? = some (f, v)) : fs.lookup f = some v := by
  induction fs generalizing i with
  | nil => simp at h
  | cons p r ih =>
    obtain ⟨g, x⟩ := p
    rw [List.map_cons, List.nodup_cons] at nd
    cases i with
    | zero =>
      cases h
      have hb : (f == f) = true := beq_self_eq_true f
      simp only [List.lookup, hb]
    | succ i =>
      rw [List.getElem?_cons_succ] at h
      have hm : f ∈ r.map (·.1) := List.mem_map.mpr ⟨(f, v), List.mem_of_getElem? h, rfl⟩
      have hb : (f == g) = false := beq_eq_false_iff_ne.mpr fun e => nd.1 (e ▸ hm)
      simp only [List.lookup, hb]
      exact ih nd.2 i h
theorem lk_none {fs : List (Str × V)} {f : Str} (h : f ∉ fs.map (·.1)) : fs.lookup f = none := by
  induction fs with
  | nil => rfl
  | cons p r ih =>
    obtain ⟨g, x⟩ := p
    rw [List.map_cons, List.mem_cons, not_or] at h
    have hb : (f == g) = false := beq_eq_false_iff_ne.mpr h.1
    simp only [List.lookup, hb]
    exact ih h.2
theorem pf_ix {fs : List (Str × V)} {f : Str} {v x : V} (nd : (fs.map (·.1)).Nodup) (i : Nat) (h : fs[i]? = some (f, x)) : putF f v fs = fs.set i (f, v) := by
  induction fs generalizing i with
  | nil => simp at h
  | cons p r ih =>
    obtain ⟨g, y⟩ := p
    rw [List.map_cons, List.nodup_cons] at nd
    cases i with
    | zero =>
      cases h
      show (if f = f then _ else _) = _
      rw [if_pos rfl]
      rfl
    | succ i =>
      rw [List.getElem?_cons_succ] at h
      have hm : f ∈ r.map (·.1) := List.mem_map.mpr ⟨(f, x), List.mem_of_getElem? h, rfl⟩
      show (if g = f then _ else _) = _
      rw [if_neg (show ¬ g = f from fun e => nd.1 (e ▸ hm)), ih nd.2 i h]
      rfl
theorem pf_new {fs : List (Str × V)} {f : Str} {v : V} (h : f ∉ fs.map (·.1)) : putF f v fs = fs ++ [(f, v)] := by
  induction fs with
  | nil => rfl
  | cons p r ih =>
    obtain ⟨g, y⟩ := p
    rw [List.map_cons, List.mem_cons, not_or] at h
    show (if g = f then _ else _) = _
    rw [if_neg (show ¬ g = f from fun e => h.1 e.symm), ih h.2]
    rfl


def okInt : V → Prop := fun v => ∃ i : Int, v = .int i ∧ (0 ≤ i ∧ i < 1000)
theorem okInt_log {i : Int} (h : 0 ≤ i ∧ i < 1000) : i.natAbs.log2 < 1920 := by
  by_cases z : i.natAbs = 0
  · rw [z]; decide
  · exact (Nat.log2_lt z).mpr (Nat.lt_of_lt_of_le (show i.natAbs < 2 ^ 10 by omega) (Nat.pow_le_pow_right (by decide) (by decide)))
theorem okInt_len {i : Int} (a : Str) (h : 0 ≤ i ∧ i < 1000) (ha : decide (a.length ≤ 1000) = true) : (a ++ Str.ofString (toString i)).length ≤ sizeLine := by
  obtain ⟨n, rfl⟩ : ∃ n : Nat, i = (n : Int) := ⟨i.toNat, by omega⟩
  have h1 := (num_asc n (by omega)).2
  have h2 : a.length ≤ 1000 := of_decide_eq_true ha
  rw [app_len, sizeLine_eq]
  omega
def Bd (n : Int) : Prop := 0 ≤ n ∧ n < 65536

theorem iteS {a : Str} {A B : Prop} (h : A) : if decide (V.str a = V.str a) = true then A else B := by
  rw [decide_eq_true rfl]
  exact iteT h
theorem iteN {a b : Str} {A B : Prop} (n : a ≠ b) (h : B) : if decide (V.str a = V.str b) = true then A else B := by
  rw [decide_eq_false fun z => n (V.str.inj z)]
  exact iteF h
theorem str_eq {a b : Str} (z : decide (V.str a = V.str b) = true) : a = b := V.str.inj (of_decide_eq_true z)
theorem strs_flat (ts : List Str) : (ts.map V.str).all flatV = true := by
  rw [List.all_eq_true]
  intro v m
  obtain ⟨x, _, rfl⟩ := List.mem_map.mp m
  rfl
theorem small_str {k : Int} (h0 : 0 ≤ k) (h1 : k < 1000) : (Str.ofString (toString k)).length ≤ 6 ∧ k.natAbs.log2 < 1920 := by
  obtain ⟨m, rfl⟩ := Int.eq_ofNat_of_zero_le h0
  constructor
  · have e : (Str.ofString (toString ((m : Nat) : Int))).cps.toList = TL.numL m := TL.tl_num m
    show (Str.ofString (toString ((m : Nat) : Int))).cps.toList.length ≤ 6
    rw [e]
    exact TL.numL_len (by decide) (by omega)
  · have : m.log2 ≤ 1919 := PySem.W.mg_log (Nat.lt_of_lt_of_le (show m < 1000 by omega) (by decide +kernel))
    show m.log2 < 1920
    omega
def NumL (x : Str) (r : V) : Prop := (∃ n : Nat, n ≤ 65535 ∧ x.cps.toList = TL.numL n ∧ r = .int n) ∨ ((∀ n : Nat, n ≤ 65535 → x.cps.toList ≠ TL.numL n) ∧ r = .int (-1))
def cuF (wl z1 z2 : Addr) (i : Int) : List (Str × V) := [("_words", .ref wl), ("options", .ref z1), ("variables", .ref z2), ("sees", .bl false), ("at", .int i)]
theorem cuNd {wl z1 z2 : Addr} {i : Int} : ((cuF wl z1 z2 i).map (·.1)).Nodup := by
  show (["_words", "options", "variables", "sees", "at"] : List Str).Nodup
  decide +kernel
/-- a cursor at its place -/
def CuS (C : Addr) (H : Hp) (a wl : Addr) (ws : List Str) (i : Nat) : Prop := ∃ dx z1 z2, H a = some (.ins C dx (cuF wl z1 z2 i)) ∧ H wl = some (.lst (ws.map V.str))
theorem CuS.same {C : Addr} {H H' : Hp} {a wl : Addr} {ws : List Str} {i : Nat} (h : CuS C H a wl ws i) (s : Same H H') : CuS C H' a wl ws i := by
  obtain ⟨dx, z1, z2, e, f⟩ := h
  exact ⟨dx, z1, z2, s _ _ e, s _ _ f⟩
def hereV (ws : List Str) (i : Nat) : V := match ws[i]? with
  | some x => .str x
  | none => .non
inductive Deed where
  | word (w : Str)
  | num (l m : Int)
  | name (ns : List Str)
  | fresh (ns : List Str)
/-- what a deed gives at a word that fits -/
def Fit : Deed → Str → V → Prop
  | .word w, x, v => x = w ∧ v = .non
  | .num l m, x, v => ∃ n : Nat, n ≤ 65535 ∧ x.cps.toList = TL.numL n ∧ l ≤ (n : Int) ∧ (n : Int) ≤ m ∧ v = .int n
  | .name ns, x, v => x ∈ ns ∧ v = .str x
  | .fresh ns, x, v => NameP x ∧ x ∉ ns ∧ v = .str x
def Wds (ws : List Str) : Prop := ∀ x ∈ ws, Asc x ∧ x.length ≤ 100

theorem none_back {H H' : Hp} {d : Addr} (s : Same H H') (h : H' d = none) : H d = none := by
  cases e : H d with
  | none => rfl
  | some o => rw [s _ _ e] at h; cases h
theorem cu_no {wl z1 z2 : Addr} {i : Int} {m : Str} (h : m ∉ (["_words", "options", "variables", "sees", "at"] : List Str)) : (cuF wl z1 z2 i).lookup m = none := lk_none h
theorem cu_meths : ("_pass_if" : Str) ∉ (["_words", "options", "variables", "sees", "at"] : List Str) ∧ ("take_word" : Str) ∉ (["_words", "options", "variables", "sees", "at"] : List Str) ∧ ("take_number" : Str) ∉ (["_words", "options", "variables", "sees", "at"] : List Str) ∧ ("take_name" : Str) ∉ (["_words", "options", "variables", "sees", "at"] : List Str) ∧ ("take_new_name" : Str) ∉ (["_words", "options", "variables", "sees", "at"] : List Str) := by decide +kernel
theorem here_scal {ws : List Str} {i : Nat} {w : Str} : scal (hereV ws i) (.str w) = true := by
  unfold hereV
  split <;> rfl
/-- what a deed comes to: passed, or refused at the place -/
def DeedK (C B : Addr) (H : Hp) (a wl : Addr) (ws : List Str) (i : Nat) (dd : Deed) (Q : VK) (E : XK) : Prop :=
  (∀ x v, ws[i]? = some x → Fit dd x v → ∀ H', But a H H' → CuS C H' a wl ws (i + 1) → Q v H') ∧
  ((∀ x v, ws[i]? = some x → ¬ Fit dd x v) → ∀ d H', Same H H' → H d = none → H' d = some (.xd [("at", .int (i : Nat))]) → E (.ref B) (some d) H')

theorem dp_strs {K : PySem.W.Frag} {H : Hp} : ∀ ws : List Str, DpAll K H (ws.map V.str) (ws.map PyData.str)
  | [] => .nil
  | w :: r => .cons (.str w) (dp_strs r)
theorem asc_ok {x : Str} (h : Asc x) : PyData.strOk x = true := by
  unfold PyData.strOk
  rw [Array.all_eq_true_iff_forall_mem]
  intro c m
  have := h c (Array.mem_toList_iff.mpr m)
  simp
  omega
theorem d_room {A : Around} {k : Nat} (h : Room k A) : A.units + 1 < cLine := by
  have := h.un
  omega
theorem eq_room {A : Around} {k : Nat} (h : Room k A) : A.units + 64 < cLine := by
  have := h.un
  omega
theorem strs_lay {ns : List Str} (h : ∀ x ∈ ns, Asc x) (l : ns.length ≤ 1000) : Lay 1 (.list (ns.map PyData.str)) := lay_list (n := 0) (by rw [List.length_map]; omega) fun d m => by
  obtain ⟨w, mw, rfl⟩ := List.mem_map.mp m
  exact lay_str (asc_ok (h w mw))
def hereD (ws : List Str) (i : Nat) : PyData := match ws[i]? with
  | some x => .str x
  | none => .none
theorem here_da {H : Hp} {ws : List Str} {i : Nat} : Da H (hereV ws i) (hereD ws i) := by
  unfold hereV hereD
  split
  · exact .str _
  · exact .non
theorem here_ok {ws : List Str} {i : Nat} : (hereD ws i).depth < 8 ∧ wide (hereD ws i) = true := by
  unfold hereD
  split
  · exact ⟨by simp [PyData.depth], by simp [wide]⟩
  · exact ⟨by simp [PyData.depth], by simp [wide]⟩
theorem here_cases {ws : List Str} {i : Nat} (h : Wds ws) : hereV ws i = .non ∨ ∃ x, hereV ws i = .str x ∧ x.length ≤ 100 ∧ Asc x := by
  unfold hereV
  split
  · rename_i x e
    exact .inr ⟨x, rfl, (h x (List.mem_of_getElem? e)).2, (h x (List.mem_of_getElem? e)).1⟩
  · exact .inl rfl
theorem here_some {ws : List Str} {i : Nat} {x : Str} (h : hereV ws i = .str x) : ws[i]? = some x := by
  unfold hereV at h
  split at h
  · rename_i y e
    rw [e, V.str.inj h]
  · cases h
theorem here_of {ws : List Str} {i : Nat} {x : Str} (h : ws[i]? = some x) : hereV ws i = .str x := by
  unfold hereV
  rw [h]
/-- the law's own word of a deed -/
def DueR (H H2 : Hp) (hv : V) (dd : Deed) (dv : V) : Prop := (∃ x v pd, hv = .str x ∧ Fit dd x v ∧ dv = .ref pd ∧ H2 pd = some (.tup [.str "passed", v])) ∨ ((∀ x v, hv = .str x → ¬ Fit dd x v) ∧ dv = .non)
theorem due_both {H : Hp} {hv : V} {dd : Deed} {Q : VK} (h : ∀ dv H2, Same H H2 → DueR H H2 hv dd dv → Q dv H2) : (∀ x v, hv = .str x → Fit dd x v → ∀ p H', Same H H' → H' p = some (.tup [.str "passed", v]) → Q (.ref p) H') ∧ ((∀ x v, hv = .str x → ¬ Fit dd x v) → ∀ H', Same H H' → Q .non H') :=
  ⟨fun x v e f p H' s g => h _ _ s (.inl ⟨x, v, p, e, f, rfl, g⟩), fun nf H' s => h _ _ s (.inr ⟨nf, rfl⟩)⟩
/-- the program's -/
def DoneR (C : Addr) (H H2 : Hp) (a wl : Addr) (ws : List Str) (i : Nat) (dd : Deed) (pa : Addr) : Prop := (∃ x v, ws[i]? = some x ∧ Fit dd x v ∧ But a H H2 ∧ CuS C H2 a wl ws (i + 1) ∧ H2 pa = some (.tup [.str "passed", v])) ∨ ((∀ x v, ws[i]? = some x → ¬ Fit dd x v) ∧ Same H H2 ∧ H2 pa = some (.tup [.str "refused", .int (i : Nat), .bl true]))
theorem done_both {C : Addr} {H : Hp} {a wl : Addr} {ws : List Str} {i : Nat} {dd : Deed} {Q : VK} (h : ∀ pa H2, DoneR C H H2 a wl ws i dd pa → Q (.ref pa) H2) : (∀ x v, ws[i]? = some x → Fit dd x v → ∀ p H', But a H H' → CuS C H' a wl ws (i + 1) → H' p = some (.tup [.str "passed", v]) → Q (.ref p) H') ∧
  ((∀ x v, ws[i]? = some x → ¬ Fit dd x v) → ∀ p H', Same H H' → H' p = some (.tup [.str "refused", .int (i : Nat), .bl true]) → Q (.ref p) H') :=
  ⟨fun x v e f p H' b c g => h _ _ (.inl ⟨x, v, e, f, b, c, g⟩), fun nf p H' s g => h _ _ (.inr ⟨nf, s, g⟩)⟩
theorem fit_uniq {dd : Deed} {x : Str} {v w : V} (a : Fit dd x v) (b : Fit dd x w) : v = w := by
  cases dd with
  | word => exact a.2.trans b.2.symm
  | num =>
    obtain ⟨n, _, e, _, _, r⟩ := a
    obtain ⟨m, _, g, _, _, t⟩ := b
    rw [r, t, TL.numL_inj (e.symm.trans g)]
  | name => exact a.2.trans b.2.symm
  | fresh => exact a.2.2.trans b.2.2.symm
theorem fit_da {dd : Deed} {x : Str} {v : V} {H : Hp} (a : Fit dd x v) : ∃ D : PyData, Da H v D ∧ D.depth = 0 ∧ wide D = true := by
  cases dd with
  | word => rw [a.2]; exact ⟨_, .non, by simp [PyData.depth], by simp [wide]⟩
  | num =>
    obtain ⟨n, _, e, _, _, r⟩ := a
    rw [r]
    exact ⟨_, .int _, by simp [PyData.depth], by simp [wide]⟩
  | name => rw [a.2]; exact ⟨_, .str _, by simp [PyData.depth], by simp [wide]⟩
  | fresh => rw [a.2.2]; exact ⟨_, .str _, by simp [PyData.depth], by simp [wide]⟩
theorem ixN_zero {n : Nat} (h : 0 < n) : ixN n 0 = some 0 := by
  unfold ixN
  rw [if_pos (Int.le_refl 0), if_pos (by omega)]
  rfl

structure Txt (K : PySem.W.Frag) (mg : Str → Option Value) where
  C_Cursor : Addr
  C_BadText : Addr
  a_BadText_init : Addr
  d_BadText_init : FuncData
  m_BadText : mg "BadText" = some (.ref C_BadText)
  e_BadText : ErrC K C_BadText a_BadText_init s_BadText_init "BadText.__init__" "at" d_BadText_init
  b_BadText_init : Binds K d_BadText_init ["self", "at"] []
  t_BadText : PySem.W.exmOne K (.ref C_BadText) (.ref C_BadText) = some true
  C_GameError : Addr
  m_GameError : mg "GameError" = some (.ref C_GameError)
  t_BadText_GameError : PySem.W.exmOne K (.ref C_BadText) (.ref C_GameError) = some true
  i_BadText : ErrI K C_BadText
  kv_BadText : PySem.W.kitOne K (.ref C_BadText) (.type "ValueError") = some true
  kk_BadText_GameError : PySem.W.kitOne K (.ref C_BadText) (.ref C_GameError) = some true
  kk_BadText_BadText : PySem.W.kitOne K (.ref C_BadText) (.ref C_BadText) = some true
  z_super : mg "super" = none
  a_Cursor_init : Addr
  d_Cursor_init : FuncData
  zk_Cursor_init_0 : Addr
  qzk_Cursor_init_0 : ∀ H, SqT K H zk_Cursor_init_0 []
  zk_Cursor_init_1 : Addr
  qzk_Cursor_init_1 : ∀ H, SqT K H zk_Cursor_init_1 []
  F_Cursor_init : FunD K "__init__" "Cursor.__init__" (defArgs s_Cursor_init) (defBody s_Cursor_init) (defScope s_Cursor_init) [] [("options", .ref zk_Cursor_init_0), ("variables", .ref zk_Cursor_init_1), ("sees", .bl false)] a_Cursor_init d_Cursor_init
  ds_Cursor_init : List Value
  v_Cursor_init : Vals [.ref zk_Cursor_init_0, .ref zk_Cursor_init_1, .bl false] ds_Cursor_init
  bd_Cursor_init : Binds K d_Cursor_init ["self", "words", "options", "variables", "sees"] ds_Cursor_init
  mk_Cursor : Mk K C_Cursor a_Cursor_init
  a_is_name : Addr
  d_is_name : FuncData
  F_is_name : Fun K "is_name" "is_name" s_is_name a_is_name d_is_name
  b_is_name : Binds K d_is_name ["word"] []
  m_is_name : mg "is_name" = some (.ref a_is_name)
  a_number_of : Addr
  d_number_of : FuncData
  F_number_of : Fun K "number_of" "number_of" s_number_of a_number_of d_number_of
  b_number_of : Binds K d_number_of ["word"] []
  m_number_of : mg "number_of" = some (.ref a_number_of)
  a_Cursor_word : Addr
  d_Cursor_word : FuncData
  F_Cursor_word : Fun K "word" "Cursor.word" s_Cursor_word a_Cursor_word d_Cursor_word
  b_Cursor_word : Binds K d_Cursor_word ["self"] []
  p_Cursor_word : Addr
  pr_Cursor_word : PropOf K C_Cursor "word" p_Cursor_word a_Cursor_word
  a_Cursor_pass_if : Addr
  d_Cursor_pass_if : FuncData
  F_Cursor_pass_if : Fun K "_pass_if" "Cursor._pass_if" s_Cursor_pass_if a_Cursor_pass_if d_Cursor_pass_if
  b_Cursor_pass_if : Binds K d_Cursor_pass_if ["self", "fits"] []
  me_Cursor_pass_if : Meth K C_Cursor "_pass_if" a_Cursor_pass_if
  a_Cursor_take_word : Addr
  d_Cursor_take_word : FuncData
  F_Cursor_take_word : Fun K "take_word" "Cursor.take_word" s_Cursor_take_word a_Cursor_take_word d_Cursor_take_word
  b_Cursor_take_word : Binds K d_Cursor_take_word ["self", "word"] []
  me_Cursor_take_word : Meth K C_Cursor "take_word" a_Cursor_take_word
  a_Cursor_take_number : Addr
  d_Cursor_take_number : FuncData
  F_Cursor_take_number : Fun K "take_number" "Cursor.take_number" s_Cursor_take_number a_Cursor_take_number d_Cursor_take_number
  b_Cursor_take_number : Binds K d_Cursor_take_number ["self", "least", "most"] []
  me_Cursor_take_number : Meth K C_Cursor "take_number" a_Cursor_take_number
  a_Cursor_take_name : Addr
  d_Cursor_take_name : FuncData
  F_Cursor_take_name : Fun K "take_name" "Cursor.take_name" s_Cursor_take_name a_Cursor_take_name d_Cursor_take_name
  b_Cursor_take_name : Binds K d_Cursor_take_name ["self", "names"] []
  me_Cursor_take_name : Meth K C_Cursor "take_name" a_Cursor_take_name
  a_Cursor_take_new_name : Addr
  d_Cursor_take_new_name : FuncData
  F_Cursor_take_new_name : Fun K "take_new_name" "Cursor.take_new_name" s_Cursor_take_new_name a_Cursor_take_new_name d_Cursor_take_new_name
  b_Cursor_take_new_name : Binds K d_Cursor_take_new_name ["self", "names"] []
  me_Cursor_take_new_name : Meth K C_Cursor "take_new_name" a_Cursor_take_new_name
  a_law_pool : Addr
  d_law_pool : FuncData
  F_law_pool : Fun K "_law_pool" "_law_pool" s_law_pool a_law_pool d_law_pool
  b_law_pool : Binds K d_law_pool ["script", "budget"] []
  m_law_pool : mg "_law_pool" = some (.ref a_law_pool)
  a_law_draw : Addr
  d_law_draw : FuncData
  F_law_draw : Fun K "_law_draw" "_law_draw" s_law_draw a_law_draw d_law_draw
  b_law_draw : Binds K d_law_draw ["pool", "size"] []
  m_law_draw : mg "_law_draw" = some (.ref a_law_draw)
  a_law_few : Addr
  d_law_few : FuncData
  F_law_few : Fun K "_law_few" "_law_few" s_law_few a_law_few d_law_few
  b_law_few : Binds K d_law_few ["pool", "most"] []
  m_law_few : mg "_law_few" = some (.ref a_law_few)
  a_law_number : Addr
  d_law_number : FuncData
  F_law_number : Fun K "_law_number" "_law_number" s_law_number a_law_number d_law_number
  b_law_number : Binds K d_law_number ["pool"] []
  m_law_number : mg "_law_number" = some (.ref a_law_number)
  a_law_same : Addr
  d_law_same : FuncData
  F_law_same : Fun K "_law_same" "_law_same" s_law_same a_law_same d_law_same
  b_law_same : Binds K d_law_same ["actual", "due"] []
  m_law_same : mg "_law_same" = some (.ref a_law_same)
  a_law_keys : Addr
  d_law_keys : FuncData
  F_law_keys : Fun K "_law_keys" "_law_keys" s_law_keys a_law_keys d_law_keys
  b_law_keys : Binds K d_law_keys [] []
  m_law_keys : mg "_law_keys" = some (.ref a_law_keys)
  a_law_name : Addr
  d_law_name : FuncData
  F_law_name : Fun K "_law_name" "_law_name" s_law_name a_law_name d_law_name
  b_law_name : Binds K d_law_name ["pool", "taken"] []
  m_law_name : mg "_law_name" = some (.ref a_law_name)
  a_law_is_name : Addr
  d_law_is_name : FuncData
  F_law_is_name : Fun K "_law_is_name" "_law_is_name" s_law_is_name a_law_is_name d_law_is_name
  b_law_is_name : Binds K d_law_is_name ["word"] []
  m_law_is_name : mg "_law_is_name" = some (.ref a_law_is_name)
  a_law_number_of : Addr
  d_law_number_of : FuncData
  F_law_number_of : Fun K "_law_number_of" "_law_number_of" s_law_number_of a_law_number_of d_law_number_of
  b_law_number_of : Binds K d_law_number_of ["word"] []
  m_law_number_of : mg "_law_number_of" = some (.ref a_law_number_of)
  a_law_word : Addr
  d_law_word : FuncData
  F_law_word : Fun K "_law_word" "_law_word" s_law_word a_law_word d_law_word
  b_law_word : Binds K d_law_word ["pool"] []
  m_law_word : mg "_law_word" = some (.ref a_law_word)
  a_law_deed : Addr
  d_law_deed : FuncData
  F_law_deed : Fun K "_law_deed" "_law_deed" s_law_deed a_law_deed d_law_deed
  b_law_deed : Binds K d_law_deed ["pool", "here"] []
  m_law_deed : mg "_law_deed" = some (.ref a_law_deed)
  a_law_due : Addr
  d_law_due : FuncData
  F_law_due : Fun K "_law_due" "_law_due" s_law_due a_law_due d_law_due
  b_law_due : Binds K d_law_due ["deed", "here"] []
  m_law_due : mg "_law_due" = some (.ref a_law_due)
  a_law_done : Addr
  d_law_done : FuncData
  F_law_done : Fun K "_law_done" "_law_done" s_law_done a_law_done d_law_done
  b_law_done : Binds K d_law_done ["cursor", "deed", "names"] []
  m_law_done : mg "_law_done" = some (.ref a_law_done)
  a_law : Addr
  d_law : FuncData
  F_law : Fun K "law" "law" s_law a_law d_law
  b_law : Binds K d_law ["script"] []
  m_law : mg "law" = some (.ref a_law)
  m_Cursor : mg "Cursor" = some (.ref C_Cursor)
  cl_Cursor : Cls K C_Cursor
  n_Cursor__words : NoAttr K C_Cursor "_words"
  n_Cursor_options : NoAttr K C_Cursor "options"
  n_Cursor_variables : NoAttr K C_Cursor "variables"
  n_Cursor_sees : NoAttr K C_Cursor "sees"
  n_Cursor_at : NoAttr K C_Cursor "at"
  v_LETTERS_AND_DIGITS : Value
  g_LETTERS_AND_DIGITS : mg "LETTERS_AND_DIGITS" = some v_LETTERS_AND_DIGITS
  r_LETTERS_AND_DIGITS : RelV (.str "abcdefghijklmnopqrstuvwxyz0123456789") v_LETTERS_AND_DIGITS
  v_LETTERS : Value
  g_LETTERS : mg "LETTERS" = some v_LETTERS
  r_LETTERS : RelV (.str "abcdefghijklmnopqrstuvwxyz") v_LETTERS
  A_KEY_WORDS : Addr
  g_KEY_WORDS : mg "KEY_WORDS" = some (.ref A_KEY_WORDS)
  q_KEY_WORDS : ∀ H, SqT K H A_KEY_WORDS [.str "option", .str "on", .str "off", .str "var", .str "round", .str "end", .str "set", .str "if", .str "else", .str "when", .str "draw", .str "first", .str "second", .str "show", .str "both", .str "pay", .str "take", .str "pick", .str "mod", .str "player", .str "keep", .str "lot", .str "while", .str "answer", .str "view", .str "long"]
  qd_KEY_WORDS : ∃ o, K.lookup A_KEY_WORDS = some o ∧ o.cls = .type "tuple" ∧ o.dict = none
  v_LONGEST_NAME : Value
  g_LONGEST_NAME : mg "LONGEST_NAME" = some v_LONGEST_NAME
  r_LONGEST_NAME : RelV (.int 12) v_LONGEST_NAME
  v_GREATEST_NUMBER : Value
  g_GREATEST_NUMBER : mg "GREATEST_NUMBER" = some v_GREATEST_NUMBER
  r_GREATEST_NUMBER : RelV (.int 65535) v_GREATEST_NUMBER
  v_LONGEST_NUMBER : Value
  g_LONGEST_NUMBER : mg "LONGEST_NUMBER" = some v_LONGEST_NUMBER
  r_LONGEST_NUMBER : RelV (.int 5) v_LONGEST_NUMBER
  z_all : mg "all" = none
  z_bool : mg "bool" = none
  z_int : mg "int" = none
  z_isinstance : mg "isinstance" = none
  z_len : mg "len" = none
  z_list : mg "list" = none
  z_max : mg "max" = none
  z_min : mg "min" = none
  z_ord : mg "ord" = none
  z_range : mg "range" = none
  z_str : mg "str" = none
  z_tuple : mg "tuple" = none
section
variable {P : Program} [PrOk P] {w : World} {K : PySem.W.Frag} {mg : Str → Option Value} {base : Heap}
theorem nsc_BadText_init : NdefX.NScope ["self", "at", "__class__"] ["self", "at"] ["__class__"] (defScope s_BadText_init) := NdefX.nscope_by (by decide +kernel)
theorem ok_BadText_init (T : Txt K mg) : FnOk P w K mg base CX0 1 T.a_BadText_init T.d_BadText_init ["self", "at"] (spErr T.C_BadText "at" okInt) := by
  obtain ⟨y1, y2, y3, y4, y5, y6, y7, y8, y9, yA, yB, yC, yD, yE, yF, yG, yH, yI, yJ, lk, hcd, hcode, hvs, hcell, hsup, hB, hself, hop⟩ := T.e_BadText.fn
  rw [yJ] at lk ⊢
  refine fn_super lk hcd hcode hvs PrOk.file hcell T.e_BadText.ox hsup hB hself hop T.z_super PrOk.top rfl rfl nsc_BadText_init (by decide +kernel) (fun vs H Q E h => ?_) (fun A outer s H vs Q E hr h => ?_) (fun _ => rfl) (fun _ => rfl) (fun _ => ⟨_, rfl⟩) (fun _ => rfl)
  · obtain ⟨x, v, rfl, _⟩ := h
    rfl
  obtain ⟨x, v, rfl, hx, hv, k⟩ := h
  refine ⟨_, _, x, (pa_cons (pe_joined (PJ.cons pe_str (PJ.cons (pe_fmt (pv 1)) PJ.nil))) pa_nil), (pss_one (ps_ost (pv 0) (pv 1))), rfl, hx, ?_⟩
  obtain ⟨i, rfl, hi⟩ := hv
  refine ⟨_, rfl, by first | decide +kernel | exact okInt_len _ hi (by decide +kernel), ⟨_, rfl, .inr ⟨i, rfl, okInt_log hi, _, rfl, okInt_len _ hi (by decide +kernel), ⟨by show 1 ≤ 1000; decide, hx, ?_⟩⟩⟩⟩
  refine ⟨_, rfl, _, rfl, x, T.C_BadText, rfl, T.e_BadText.ox, T.e_BadText.no, .inl ⟨hx, k⟩⟩
/-! ### Cursor.__init__ -/
def sp_Cursor_init (T : Txt K mg) : Sp := fun vs H Q _ => ∃ (x dx a z1 z2 : Addr) (ws : List Str), vs = [.ref x, .ref a, .ref z1, .ref z2, .bl false] ∧ H x = some (.ins T.C_Cursor dx []) ∧ H a = some (.lst (ws.map V.str)) ∧ (∀ H, SqT K H z1 []) ∧ (∀ H, SqT K H z2 []) ∧
  ∀ (wl : Addr) (H' : Hp), But x H H' → H wl = none → H' wl = some (.lst (ws.map V.str)) → H' x = some (.ins T.C_Cursor dx (cuF wl z1 z2 0)) → Q .non H'

theorem ok_Cursor_init (T : Txt K mg) : FnOk P w K mg base CX0 1 T.a_Cursor_init T.d_Cursor_init ["self", "words", "options", "variables", "sees"] (sp_Cursor_init T) := by
  refine T.F_Cursor_init.ok sc_Cursor_init (fun vs H Q E h => ?_) (fun cdv A outer s H vs Q E hr h => ?_)
  · obtain ⟨x, dx, a, z1, z2, ws, rfl, _⟩ := h
    rfl
  obtain ⟨x, dx, a, z1, z2, ws, rfl, hx, ha, hz1, hz2, q⟩ := h
  refine ⟨_, (pss_cons (ps_fld (pv 0) (pe_callTy call_list_of (by rfl) T.z_list (by first | exact PySem.boot_list | decide +kernel) (pa_cons (pv 1) pa_nil)) rfl)
      (pss_cons (ps_fld (pv 0) (pe_callTy call_tuple_of (by rfl) T.z_tuple (by first | exact PySem.boot_tuple | decide +kernel) (pa_cons (pv 2) pa_nil)) rfl)
      (pss_cons (ps_fld (pv 0) (pe_callTy call_tuple_of (by rfl) T.z_tuple (by first | exact PySem.boot_tuple | decide +kernel) (pa_cons (pv 3) pa_nil)) rfl)
      (pss_cons (ps_fld (pv 0) (pv 4) rfl)
      (pss_one (ps_fld (pv 0) pe_int rfl)))))), ?_⟩
  have na : a ≠ x := fun z => by rw [z, hx] at ha; cases ha
  refine ⟨_, rfl, a, _, rfl, .inl (SqL.of ha), fun wl fwl => ?_⟩
  have s1 := same_upd (o := .lst (ws.map V.str)) fwl
  have nwx : wl ≠ x := (ne_of_none hx fwl).symm
  refine ⟨_, rfl, x, T.C_Cursor, dx, [], rfl, s1 _ _ hx, T.cl_Cursor, T.n_Cursor__words, by show 0 < 1000; decide, ?_⟩
  have x2 : upd (upd H wl (.lst (ws.map V.str))) x (.ins T.C_Cursor dx [("_words", .ref wl)]) x = some (.ins T.C_Cursor dx [("_words", .ref wl)]) := upd_same
  show tSeq _ _ _ _ (upd (upd H wl (.lst (ws.map V.str))) x (.ins T.C_Cursor dx [("_words", .ref wl)]))
  refine ⟨_, rfl, z1, _, rfl, .inr ⟨hz1 _, ?_⟩⟩
  refine ⟨_, rfl, x, T.C_Cursor, dx, [("_words", .ref wl)], rfl, x2, T.cl_Cursor, T.n_Cursor_options, by show 1 < 1000; decide, ?_⟩
  rw [pf_new (show ("options" : Str) ∉ (["_words"] : List Str) by decide +kernel), upd_upd]
  refine ⟨_, rfl, z2, _, rfl, .inr ⟨hz2 _, ?_⟩⟩
  refine ⟨_, rfl, x, T.C_Cursor, dx, [("_words", .ref wl), ("options", .ref z1)], rfl, upd_same, T.cl_Cursor, T.n_Cursor_variables, by show 2 < 1000; decide, ?_⟩
  rw [pf_new (show ("variables" : Str) ∉ (["_words", "options"] : List Str) by decide +kernel), upd_upd]
  refine ⟨_, rfl, _, rfl, x, T.C_Cursor, dx, [("_words", .ref wl), ("options", .ref z1), ("variables", .ref z2)], rfl, upd_same, T.cl_Cursor, T.n_Cursor_sees, by show 3 < 1000; decide, ?_⟩
  rw [pf_new (show ("sees" : Str) ∉ (["_words", "options", "variables"] : List Str) by decide +kernel), upd_upd]
  refine ⟨_, rfl, x, T.C_Cursor, dx, [("_words", .ref wl), ("options", .ref z1), ("variables", .ref z2), ("sees", .bl false)], rfl, upd_same, T.cl_Cursor, T.n_Cursor_at, by show 4 < 1000; decide, ?_⟩
  rw [pf_new (show ("at" : Str) ∉ (["_words", "options", "variables", "sees"] : List Str) by decide +kernel), upd_upd]
  exact q wl _ (fun c o n e => by rw [upd_ne n]; exact s1 _ _ e) fwl (by rw [upd_ne nwx]; exact upd_same) upd_same
/-! ### is_name -/
def sp_is_name (T : Txt K mg) : Sp := fun vs H Q _ => ∃ (x : Str), vs = [.str x] ∧ x.length ≤ 100 ∧ ∀ (b : Bool) (H' : Hp), Same H H' → (b = true ↔ NameP x) → Q (.bl b) H'

theorem ok_is_name (T : Txt K mg) : FnOk P w K mg base CX0 1 T.a_is_name T.d_is_name ["word"] (sp_is_name T) := by
  refine T.F_is_name.ok sc_is_name (fun vs H Q E h => ?_) (fun cdv A outer s H vs Q E hr h => ?_)
  · obtain ⟨x, rfl, _⟩ := h
    rfl
  obtain ⟨x, rfl, hl, q⟩ := h
  refine ⟨_, (pss_cons (ps_if (PW.pt (pw_or (pt_not (pt_chain op_le op_le pe_int (pe_callB call_len_str (by rfl) T.z_len (by first | exact PySem.boot_len | decide +kernel) (pa_cons (pv 0) pa_nil)) (pe_glob (by rfl) T.g_LONGEST_NAME T.r_LONGEST_NAME))) (pw_or1 (pt_cmpR op_in_seq (pv 0) (pe_glob (v := .ref T.A_KEY_WORDS) (by rfl) T.g_KEY_WORDS rfl) (by with_unfolding_all rfl))))) (pss_one (ps_ret pe_bl)) pss_nil)
      (pss_one (ps_ret (pe_and (pe_cmpR op_in_sign (pe_ix ix_str (pv 0) pe_int (fun _ _ => rfl)) (pe_glob (by rfl) T.g_LETTERS T.r_LETTERS) (by with_unfolding_all rfl)) (pe_one (pe_callB (cr_all rfl) (by rfl) T.z_all (by first | exact PySem.boot_all | decide +kernel) (pa_cons (pe_lc (own := [("sign", 1)]) (g := gName 1) (tt := tYes) rfl sc_is_name.nd (pi_str (pv 0)) (blkOk_by (N := N_is_name) (sc := defScope s_is_name) (by decide +kernel)) (fun _ _ _ _ _ => (pg_name (i := 1) sc_is_name.nd rfl (by first | exact Or.inl rfl | exact Or.inr rfl))) (fun _ _ _ _ _ => pts_nil) (fun _ _ _ _ _ => (pe_cmpR op_in_sign (pv 1) (pe_glob (by rfl) T.g_LETTERS_AND_DIGITS T.r_LETTERS_AND_DIGITS) (by with_unfolding_all rfl)))) pa_nil))))))), ?_⟩
  have hx0 : x.length = x.cps.toList.length := rfl
  have tkA : x.cps.toList.take x.cps.size = x.cps.toList := List.take_of_length_le (Nat.le_refl _)
  refine ⟨_, rfl, x, rfl, small_le (by omega), _, _, rfl, rfl, _, rfl, ite2 (fun c1 => ?_) (fun c1 => ?_)⟩
  · refine ⟨_, _, rfl, rfl, _, rfl, ite2 (fun c2 => ?_) (fun c2 => ?_)⟩
    · refine iteT ?_
      refine q false H (fun _ _ h => h) ⟨fun z => (by cases z), fun z => ?_⟩
      have c2' : ¬ ((x.length : Int) ≤ 12) := fun y => by
        rw [decide_eq_true y] at c2
        cases c2
      exact absurd z.2.1 (by omega)
    · have c2' : (x.length : Int) ≤ 12 := by
        by_cases y : (x.length : Int) ≤ 12
        · exact y
        · rw [decide_eq_false y] at c2
          exact absurd rfl c2
      have c1' : (1 : Int) ≤ (x.length : Int) := of_decide_eq_true c1
      refine ⟨_, rfl, T.A_KEY_WORDS, keyV, rfl, .inr (T.q_KEY_WORDS H), rfl, key_flat, _, rfl, ite2 (fun c3 => ?_) (fun c3 => ?_)⟩
      · refine q false H (fun _ _ h => h) ⟨fun z => (by cases z), fun z => ?_⟩
        have c3' : inV (.str x) keyV = true := c3
        rw [z.2.2.1] at c3'
        cases c3'
      · have c3' : inV (.str x) keyV = false := by
          cases e : inV (.str x) keyV with
          | false => rfl
          | true => exact absurd e c3
        have hlen : 0 < x.cps.toList.length := by
          have : x.length = x.cps.toList.length := rfl
          omega
        have g0 : x.cps.toList[0]? = some (x.cps.toList[0]) := List.getElem?_eq_getElem hlen
        generalize x.cps.toList[0] = c0 at g0
        have key := name_iff g0
        refine ⟨_, rfl, x, 0, c0, rfl, rfl, small_le (by omega), at_ofG (j := 0) rfl g0, c0, lettersS, rfl, rfl, _, rfl, ite2 (fun c4 => ?_) (fun c4 => ?_)⟩
        · have c4' : c0 ∈ loL := by rw [← letters_eq]; exact of_decide_eq_true c4
          refine ⟨_, rfl, x, rfl, fun D hD => ?_⟩
          refine lc_it (walk_str (z := x)) (fun i H' => Same H H' ∧ H' D = some (.lst (((x.cps.toList.take i).map fun c => decide (c ∈ ldL)).map V.bl))) ⟨same_upd hD, upd_same⟩ (fun _ _ _ _ => trivial) (fun i y H5 H6 hi ⟨s5, e5⟩ ⟨e6, c, gc, ey⟩ => ?_) (fun H5 ⟨s5, e5⟩ => ?_)
          · subst e6
            subst ey
            have gl : x.cps.toList[i]? = some c := by rw [Array.getElem?_toList]; exact gc
            have tk : x.cps.toList.take (i + 1) = x.cps.toList.take i ++ [c] := by rw [List.take_add_one, gl]; rfl
            refine ⟨rfl, ?_⟩
            refine ⟨_, rfl, c, ldS, rfl, rfl, _, e5, ?_, ?_, ?_⟩
            · rw [List.length_map, List.length_map, List.length_take]
              exact small1000 (by omega)
            · intro b o eb
              rw [upd_ne (ne_of_none eb hD)]
              exact s5 b o eb
            · rw [upd_same, tk, List.map_append, List.map_append, ← ld_eq]
              rfl
          · refine ⟨D, _, rfl, SqL.of e5, ?_⟩
            refine q _ _ s5 ⟨fun z => ?_, fun z => ?_⟩
            · rw [tkA] at z
              exact ⟨by omega, by omega, c3', key.mp ⟨c4', all_iff.mp z⟩⟩
            · rw [tkA]
              exact all_iff.mpr (key.mpr z.2.2.2).2
        · refine q false H (fun _ _ h => h) ⟨fun z => (by cases z), fun z => ?_⟩
          refine absurd (decide_eq_true ?_) c4
          have := (key.mpr z.2.2.2).1
          rw [← letters_eq] at this
          exact this
  · refine ⟨_, rfl, iteT (iteT ?_)⟩
    refine q false H (fun _ _ h => h) ⟨fun z => (by cases z), fun z => ?_⟩
    exact absurd (decide_eq_true (show (1 : Int) ≤ (x.length : Int) by have := z.1; omega)) c1
/-! ### number_of -/
def sp_number_of (T : Txt K mg) : Sp := fun vs H Q _ => ∃ (x : Str), vs = [.str x] ∧ Asc x ∧ x.length ≤ 100 ∧ ∀ (r : V), NumR x r → Q r H

theorem ok_number_of (T : Txt K mg) : FnOk P w K mg base CX0 1 T.a_number_of T.d_number_of ["word"] (sp_number_of T) := by
  refine T.F_number_of.ok sc_number_of (fun vs H Q E h => ?_) (fun cdv A outer s H vs Q E hr h => ?_)
  · obtain ⟨x, rfl, _⟩ := h
    rfl
  obtain ⟨x, rfl, ha, hl, q⟩ := h
  refine ⟨_, (pss_cons (ps_if (PW.pt (pw_or (pt_cmpR op_gt (pe_callB call_len_str (by rfl) T.z_len (by first | exact PySem.boot_len | decide +kernel) (pa_cons (pv 0) pa_nil)) (pe_glob (by rfl) T.g_LONGEST_NUMBER T.r_LONGEST_NUMBER) (nomark _)) (pw_or (pt_not (pt_truth (pe_bm0 PySem.F.plainAttrs_str PySem.F.slot_str_isascii PySem.F.type_str_isascii mt_isascii (pv 0)) (fun _ => rfl))) (pw_or1 (pt_not (pt_truth (pe_bm0 PySem.F.plainAttrs_str PySem.F.slot_str_isdigit PySem.F.type_str_isdigit mt_isdigit (pv 0)) (fun _ => rfl))))))) (pss_one (ps_ret pe_non)) pss_nil)
      (pss_cons (ps_set (i := 1) sc_number_of.nd rfl (by first | exact Or.inl rfl | exact Or.inr rfl) (pe_callTy call_int_str (by rfl) T.z_int (by first | exact PySem.boot_int | decide +kernel) (pa_cons (pv 0) pa_nil)))
      (pss_cons (ps_if (PW.pt (pw_or (pt_cmpR op_gt (pv 1) (pe_glob (by rfl) T.g_GREATEST_NUMBER T.r_GREATEST_NUMBER) (nomark _)) (pw_or1 (pt_cmpR op_ne (pe_callTy call_str_int (by rfl) T.z_str (by first | exact PySem.boot_str | decide +kernel) (pa_cons (pv 1) pa_nil)) (pv 0) (nomark _))))) (pss_one (ps_ret pe_non)) pss_nil)
      (pss_one (ps_ret (pv 1)))))), ?_⟩
  have hx0 : x.length = x.cps.toList.length := rfl
  refine ⟨_, rfl, x, rfl, small_le (by omega), _, _, rfl, rfl, _, rfl, ite2 (fun c1 => ?_) (fun c1 => ?_)⟩
  · have c1' : (5 : Int) < (x.length : Int) := of_decide_eq_true c1
    refine q _ (.inr ⟨fun n hn e => ?_, rfl⟩)
    have := TL.numL_len (n := n) (k := 5) (by decide) (by omega)
    rw [← e] at this
    omega
  · refine ⟨_, rfl, rfl, x, rfl, rfl, trivial, _, rfl, ?_⟩
    rw [asc_isascii ha]
    refine iteF ?_
    refine ⟨_, rfl, rfl, x, rfl, rfl, trivial, _, rfl, ite2 (fun c2 => ?_) (fun c2 => ?_)⟩
    · refine q _ (.inr ⟨fun n hn e => ?_, rfl⟩)
      have : Txt.isdigit x = true := (isdigit_iff ha).mpr ⟨by rw [e]; exact TL.numL_digits n, by rw [e]; exact TL.numL_ne n⟩
      rw [this] at c2
      cases c2
    · have hd : Txt.isdigit x = true := by
        cases e : Txt.isdigit x with
        | true => rfl
        | false =>
          rw [e] at c2
          exact absurd rfl c2
      obtain ⟨hd1, hd2⟩ := (isdigit_iff ha).mp hd
      have hv := PySem.intText_digits hd1 hd2 (by omega)
      generalize ev : NumText.digitsVal x.cps.toList = v at hv
      have uniq : ∀ n, x.cps.toList = TL.numL n → n = v := fun n e => by rw [← ev, e, TL.numL_val]
      refine ⟨_, rfl, x, _, rfl, hv, by omega, ?_⟩
      refine ⟨_, rfl, _, _, rfl, rfl, _, rfl, ite2 (fun c3 => ?_) (fun c3 => ?_)⟩
      · have c3' : (65535 : Int) < (v : Int) := of_decide_eq_true c3
        refine q _ (.inr ⟨fun n hn e => ?_, rfl⟩)
        have := uniq n e
        omega
      · have c3' : ¬ (65535 : Int) < (v : Int) := fun z => c3 (decide_eq_true z)
        refine ⟨_, rfl, _, rfl, log_small (Nat.lt_of_le_of_lt (show v ≤ 65535 by omega) (by decide +kernel)), _, rfl, rfl, _, rfl, ite2 (fun c4 => ?_) (fun c4 => ?_)⟩
        · refine q _ (.inr ⟨fun n hn e => ?_, rfl⟩)
          have e1 := uniq n e
          subst e1
          rw [decide_eq_true (congrArg V.str (str_num e))] at c4
          cases c4
        · refine ⟨_, rfl, q _ (.inl ⟨v, by omega, ?_, rfl⟩)⟩
          by_cases y : V.str (Str.ofString (toString ((v : Nat) : Int))) = V.str x
          · exact num_str y
          · exact absurd (by rw [decide_eq_false y]; rfl) c4
/-! ### Cursor.word -/
def sp_Cursor_word (T : Txt K mg) : Sp := fun vs H Q _ => ∃ (a wl : Addr) (ws : List Str) (i : Nat), vs = [.ref a] ∧ CuS T.C_Cursor H a wl ws i ∧ Q (hereV ws i) H

theorem ok_Cursor_word (T : Txt K mg) : FnOk P w K mg base CX0 1 T.a_Cursor_word T.d_Cursor_word ["self"] (sp_Cursor_word T) := by
  refine T.F_Cursor_word.ok sc_Cursor_word (fun vs H Q E h => ?_) (fun cdv A outer s H vs Q E hr h => ?_)
  · obtain ⟨a, wl, ws, i, rfl, _⟩ := h
    rfl
  obtain ⟨a, wl, ws, i, rfl, ⟨dx, z1, z2, ha, hw⟩, q⟩ := h
  refine ⟨_, (pss_cons (ps_if (pt_cmpR op_lt (pe_fld (pv 0) rfl) (pe_callB call_len_seq (by rfl) T.z_len (by first | exact PySem.boot_len | decide +kernel) (pa_cons (pe_fld (pv 0) rfl) pa_nil)) (nomark _)) (pss_one (ps_ret (pe_ix ix_list (pe_fld (pv 0) rfl) (pe_fld (pv 0) rfl) (fun _ _ => rfl)))) pss_nil)
      (pss_one (ps_ret pe_non))), ?_⟩
  refine ⟨_, rfl, a, T.C_Cursor, dx, _, _, rfl, ha, T.cl_Cursor, T.n_Cursor_at, lk_ix cuNd 4 rfl, _, rfl, a, T.C_Cursor, dx, _, _, rfl, ha, T.cl_Cursor, T.n_Cursor__words, lk_ix cuNd 0 rfl, wl, _, rfl, .inl (SqL.of hw), _, _, rfl, rfl, _, rfl, ite2 (fun c => ?_) (fun c => ?_)⟩
  · have c' : (i : Int) < (((ws.map V.str).length : Nat) : Int) := of_decide_eq_true c
    rw [List.length_map] at c'
    have hl : i < ws.length := by omega
    have e : ws[i]? = some ws[i] := List.getElem?_eq_getElem hl
    have eq : hereV ws i = .str ws[i] := by unfold hereV; rw [e]
    rw [eq] at q
    exact ⟨_, rfl, a, T.C_Cursor, dx, _, _, rfl, ha, T.cl_Cursor, T.n_Cursor__words, lk_ix cuNd 0 rfl, _, rfl, a, T.C_Cursor, dx, _, _, rfl, ha, T.cl_Cursor, T.n_Cursor_at, lk_ix cuNd 4 rfl, wl, _, _, _, rfl, rfl, SqL.of hw, at_ofG (j := i) rfl (by rw [List.getElem?_map, e]; rfl), q⟩
  · have c' : ¬ (i : Int) < (((ws.map V.str).length : Nat) : Int) := fun z => c (decide_eq_true z)
    rw [List.length_map] at c'
    have eq : hereV ws i = .non := by unfold hereV; rw [List.getElem?_eq_none (by omega)]
    rw [eq] at q
    exact q
/-! ### Cursor._pass_if@x -/
def sp_Cursor_pass_if_x (T : Txt K mg) : Sp := fun vs H Q E => ∃ (a wl : Addr) (ws : List Str) (i : Nat) (b : Bool), vs = [.ref a, .bl b] ∧ CuS T.C_Cursor H a wl ws i ∧ i < 1000 ∧ (b = true → ∀ H', But a H H' → CuS T.C_Cursor H' a wl ws (i + 1) → Q .non H') ∧
  (b = false → ∀ d H', Same H H' → H d = none → H' d = some (.xd [("at", .int (i : Nat))]) → E (.ref T.C_BadText) (some d) H')

theorem ok_Cursor_pass_if_x (T : Txt K mg) : FnOk P w K mg base (L2.CX P w) 4 T.a_Cursor_pass_if T.d_Cursor_pass_if ["self", "fits"] (sp_Cursor_pass_if_x T) := by
  refine T.F_Cursor_pass_if.okX sc_Cursor_pass_if (fun vs H Q E h => ?_) (fun cdv A outer s H vs Q E hr h => ?_)
  · obtain ⟨a, wl, ws, i, b, rfl, _⟩ := h
    rfl
  obtain ⟨a, wl, ws, i, b, rfl, ⟨dx, z1, z2, ha, hw⟩, hi, k1, k2⟩ := h
  refine ⟨_, (pss_cons (ps_if (pt_not (pt_truth (pv 1) (fun _ => rfl))) (pss_one (ps_raise rfl (takes_of rfl rfl rfl rfl) (pmk_oex T.e_BadText.ox T.e_BadText.ini T.e_BadText.ty (ok_BadText_init T) (hr.mono (by decide)) T.b_BadText_init .nil pass0 (by rfl) T.m_BadText (pa_cons (pe_fld (pv 0) rfl) pa_nil)))) pss_nil)
      (pss_one (ps_fldaug (pv 0) pe_int in_add))), ?_⟩
  have nw : wl ≠ a := fun z => by rw [z, ha] at hw; cases hw
  refine ⟨_, rfl, _, rfl, ?_⟩
  cases b with
  | false =>
    refine iteT ?_
    exact ⟨_, rfl, a, T.C_Cursor, dx, _, _, rfl, ha, T.cl_Cursor, T.n_Cursor_at, lk_ix cuNd 4 rfl, raise_ok ⟨_, rfl, by omega, by omega⟩ (k2 rfl)⟩
  | true =>
    refine iteF ?_
    refine ⟨_, rfl, a, T.C_Cursor, dx, _, _, rfl, ha, T.cl_Cursor, T.n_Cursor_at, lk_ix cuNd 4 rfl, _, _, rfl, rfl, dx, _, ha, by show 5 < 1000; decide, ?_⟩
    rw [pf_ix cuNd 4 rfl]
    refine k1 rfl _ but_upd ⟨dx, z1, z2, ?_, by rw [upd_ne nw]; exact hw⟩
    rw [upd_same]
    rfl
/-! ### Cursor.take_word@x -/
def sp_Cursor_take_word_x (T : Txt K mg) : Sp := fun vs H Q E => ∃ (a wl : Addr) (ws : List Str) (i : Nat) (w : Str), vs = [.ref a, .str w] ∧ CuS T.C_Cursor H a wl ws i ∧ i < 1000 ∧ DeedK T.C_Cursor T.C_BadText H a wl ws i (.word w) Q E

theorem ok_Cursor_take_word_x (T : Txt K mg) : FnOk P w K mg base (L2.CX P w) 5 T.a_Cursor_take_word T.d_Cursor_take_word ["self", "word"] (sp_Cursor_take_word_x T) := by
  refine T.F_Cursor_take_word.okX sc_Cursor_take_word (fun vs H Q E h => ?_) (fun cdv A outer s H vs Q E hr h => ?_)
  · obtain ⟨a, wl, ws, i, w, rfl, _⟩ := h
    rfl
  obtain ⟨a, wl, ws, i, w, rfl, hC, hi, k1, k2⟩ := h
  refine ⟨_, (pss_one (ps_expr (pe_methT (pv 0) T.cl_Cursor T.me_Cursor_pass_if (ok_Cursor_pass_if_x T) (hr.mono (by decide)) T.b_Cursor_pass_if .nil (fun σ => passAt (takes_of rfl rfl rfl rfl) σ) (pa_cons (pe_cmpR op_eq (pe_prop (pv 0) T.cl_Cursor T.pr_Cursor_word (ok_Cursor_word T) (hr.mono (by decide)) T.b_Cursor_word .nil pass0 rfl) (pv 1) (nomark _)) pa_nil)))), ?_⟩
  obtain ⟨dx, z1, z2, ha, hw⟩ := id hC
  refine ⟨_, rfl, a, dx, _, rfl, ha, cu_no cu_meths.1, _, rfl, a, dx, _, rfl, ha, a, wl, ws, i, rfl, hC, _, rfl, here_scal, ?_⟩
  refine ⟨a, wl, ws, i, _, rfl, hC, hi, fun hb H' b c => ?_, fun hb => k2 fun x v e f => ?_⟩
  · have e : hereV ws i = .str w := of_decide_eq_true hb
    unfold hereV at e
    split at e
    · rename_i x hx
      exact k1 x .non hx ⟨V.str.inj e, rfl⟩ H' b c
    · cases e
  · have e2 : hereV ws i = .str w := by unfold hereV; rw [e, f.1]
    rw [decide_eq_true e2] at hb
    cases hb
/-! ### Cursor.take_number@x -/
def sp_Cursor_take_number_x (T : Txt K mg) : Sp := fun vs H Q E => ∃ (a wl : Addr) (ws : List Str) (i : Nat) (l m : Int), vs = [.ref a, .int l, .int m] ∧ CuS T.C_Cursor H a wl ws i ∧ i < 1000 ∧ Wds ws ∧ DeedK T.C_Cursor T.C_BadText H a wl ws i (.num l m) Q E

theorem ok_Cursor_take_number_x (T : Txt K mg) : FnOk P w K mg base (L2.CX P w) 5 T.a_Cursor_take_number T.d_Cursor_take_number ["self", "least", "most"] (sp_Cursor_take_number_x T) := by
  refine T.F_Cursor_take_number.okX sc_Cursor_take_number (fun vs H Q E h => ?_) (fun cdv A outer s H vs Q E hr h => ?_)
  · obtain ⟨a, wl, ws, i, l, m, rfl, _⟩ := h
    rfl
  obtain ⟨a, wl, ws, i, l, m, rfl, hC, hi, hW, k1, k2⟩ := h
  refine ⟨_, (pss_cons (ps_set (i := 3) sc_Cursor_take_number.nd rfl (by first | exact Or.inl rfl | exact Or.inr rfl) (pe_prop (pv 0) T.cl_Cursor T.pr_Cursor_word (ok_Cursor_word T) (hr.mono (by decide)) T.b_Cursor_word .nil pass0 rfl))
      (C8.pss_cut (ps_set (i := 4) sc_Cursor_take_number.nd rfl (by first | exact Or.inl rfl | exact Or.inr rfl) (pe_ifExp (pt_cmpR op_isN (pv 3) pe_non (nomark _)) pe_non (pe_call (ok_number_of T) (hr.mono (by decide)) (by rfl) T.m_number_of T.F_number_of.kp T.b_number_of .nil pass0 (pa_cons (pv 3) pa_nil))))
      (pss_cons (ps_expr (pe_methT (pv 0) T.cl_Cursor T.me_Cursor_pass_if (ok_Cursor_pass_if_x T) (hr.mono (by decide)) T.b_Cursor_pass_if .nil (fun σ => passAt (takes_of rfl rfl rfl rfl) σ) (pa_cons (pe_and (pe_cmpR op_notN (pv 4) pe_non (nomark _)) (pe_one (pe_chain op_le op_le (pv 1) (pv 4) (pv 2)))) pa_nil)))
      (pss_one (ps_ret (pv 4)))))), ?_⟩
  obtain ⟨dx, z1, z2, ha, hw⟩ := id hC
  refine ⟨_, rfl, a, dx, _, rfl, ha, a, wl, ws, i, rfl, hC, ?_⟩
  refine ⟨fun σ' H' => ∃ r : V, σ' = [some (.ref a), some (.int l), some (.int m), some (hereV ws i), some r] ∧ H' = H ∧ ((ws[i]? = none ∧ r = .non) ∨ ∃ x, ws[i]? = some x ∧ NumR x r), ?_, ?_⟩
  · cases e : ws[i]? with
    | none =>
      have eh : hereV ws i = .non := by unfold hereV; rw [e]
      rw [eh]
      exact ⟨_, rfl, rfl, _, rfl, iteT ⟨_, rfl, rfl, .inl ⟨rfl, rfl⟩⟩⟩
    | some x =>
      have eh : hereV ws i = .str x := by unfold hereV; rw [e]
      rw [eh]
      have hx := hW x (List.mem_of_getElem? e)
      exact ⟨_, rfl, rfl, _, rfl, iteF ⟨_, rfl, x, rfl, hx.1, hx.2, fun r hr => ⟨_, rfl, rfl, .inr ⟨x, rfl, hr⟩⟩⟩⟩
  rintro σ1 H1 ⟨r, rfl, rfl, hr'⟩
  refine ⟨_, rfl, a, dx, _, rfl, ha, cu_no cu_meths.1, _, rfl, rfl, _, rfl, ?_⟩
  have non : (ws[i]? = none ∨ ∃ x, ws[i]? = some x ∧ ∀ n : Nat, n ≤ 65535 → x.cps.toList ≠ TL.numL n) → ∀ x v, ws[i]? = some x → ¬ Fit (.num l m) x v := fun h x v e f => by
    obtain ⟨n, h1, h2, _⟩ := f
    rcases h with h | ⟨y, h, g⟩
    · rw [h] at e; cases e
    · rw [h] at e
      cases e
      exact g n h1 h2
  have fail : r = .non → (ws[i]? = none ∨ ∃ x, ws[i]? = some x ∧ ∀ n : Nat, n ≤ 65535 → x.cps.toList ≠ TL.numL n) := fun z => by
    rcases hr' with ⟨h, _⟩ | ⟨x, h, ⟨n, _, _, g⟩ | ⟨g, _⟩⟩
    · exact .inl h
    · rw [z] at g
      cases g
    · exact .inr ⟨x, h, g⟩
  by_cases z : r = .non
  · have := non (fail z)
    subst z
    refine iteF ?_
    refine ⟨a, wl, ws, i, _, rfl, hC, hi, fun hb => Bool.noConfusion hb, fun _ => k2 this⟩
  · obtain ⟨x, e, n, n1, n2, rfl⟩ : ∃ x, ws[i]? = some x ∧ ∃ n : Nat, n ≤ 65535 ∧ x.cps.toList = TL.numL n ∧ r = .int n := by
      rcases hr' with ⟨_, h⟩ | ⟨x, h, g | ⟨_, g⟩⟩
      · exact absurd h z
      · exact ⟨x, h, g⟩
      · exact absurd g z
    refine iteT ?_
    have bad : ¬ (l ≤ (n : Int) ∧ (n : Int) ≤ m) → ∀ x v, ws[i]? = some x → ¬ Fit (.num l m) x v := fun h x' v e' f => by
      rw [e] at e'
      cases e'
      obtain ⟨n', g1, g2, g3, g4, _⟩ := f
      have := TL.numL_inj (n2.symm.trans g2)
      subst this
      exact h ⟨g3, g4⟩
    refine ⟨_, rfl, _, rfl, _, _, rfl, rfl, _, rfl, ite2 (fun c1 => ?_) (fun c1 => ?_)⟩
    · refine ⟨_, rfl, _, _, rfl, rfl, ?_⟩
      exact ⟨a, wl, ws, i, _, rfl, hC, hi, fun h H' b c => ⟨_, rfl, k1 x (.int n) e ⟨n, n1, n2, of_decide_eq_true c1, of_decide_eq_true h, rfl⟩ H' b c⟩, fun h => k2 (bad fun g => by
        rw [decide_eq_true g.2] at h
        cases h)⟩
    · exact ⟨a, wl, ws, i, _, rfl, hC, hi, fun h => Bool.noConfusion h, fun _ => k2 (bad fun g => c1 (decide_eq_true g.1))⟩
/-! ### Cursor.take_name@x -/
def sp_Cursor_take_name_x (T : Txt K mg) : Sp := fun vs H Q E => ∃ (a wl pn : Addr) (ws ns : List Str) (i : Nat), vs = [.ref a, .ref pn] ∧ CuS T.C_Cursor H a wl ws i ∧ H pn = some (.lst (ns.map V.str)) ∧ i < 1000 ∧ DeedK T.C_Cursor T.C_BadText H a wl ws i (.name ns) Q E

theorem ok_Cursor_take_name_x (T : Txt K mg) : FnOk P w K mg base (L2.CX P w) 5 T.a_Cursor_take_name T.d_Cursor_take_name ["self", "names"] (sp_Cursor_take_name_x T) := by
  refine T.F_Cursor_take_name.okX sc_Cursor_take_name (fun vs H Q E h => ?_) (fun cdv A outer s H vs Q E hr h => ?_)
  · obtain ⟨a, wl, pn, ws, ns, i, rfl, _⟩ := h
    rfl
  obtain ⟨a, wl, pn, ws, ns, i, rfl, hC, hn, hi, k1, k2⟩ := h
  refine ⟨_, (pss_cons (ps_set (i := 2) sc_Cursor_take_name.nd rfl (by first | exact Or.inl rfl | exact Or.inr rfl) (pe_prop (pv 0) T.cl_Cursor T.pr_Cursor_word (ok_Cursor_word T) (hr.mono (by decide)) T.b_Cursor_word .nil pass0 rfl))
      (pss_cons (ps_expr (pe_methT (pv 0) T.cl_Cursor T.me_Cursor_pass_if (ok_Cursor_pass_if_x T) (hr.mono (by decide)) T.b_Cursor_pass_if .nil (fun σ => passAt (takes_of rfl rfl rfl rfl) σ) (pa_cons (pe_and (pe_cmpR op_notN (pv 2) pe_non (nomark _)) (pe_one (pe_cmpR op_in_seq (pv 2) (pv 1) (by with_unfolding_all rfl)))) pa_nil)))
      (pss_one (ps_ret (pv 2))))), ?_⟩
  obtain ⟨dx, z1, z2, ha, hw⟩ := id hC
  refine ⟨_, rfl, a, dx, _, rfl, ha, a, wl, ws, i, rfl, hC, ?_⟩
  refine ⟨_, rfl, a, dx, _, rfl, ha, cu_no cu_meths.1, _, rfl, rfl, _, rfl, ?_⟩
  cases e : ws[i]? with
  | none =>
    have eh : hereV ws i = .non := by unfold hereV; rw [e]
    rw [eh]
    refine iteF ?_
    refine ⟨a, wl, ws, i, _, rfl, hC, hi, fun hb => Bool.noConfusion hb, fun _ => k2 fun x v e' _ => by rw [e] at e'; cases e'⟩
  | some x =>
    have eh : hereV ws i = .str x := by unfold hereV; rw [e]
    rw [eh]
    refine iteT ?_
    refine ⟨_, rfl, _, rfl, pn, ns.map V.str, rfl, .inl (SqL.of hn), rfl, strs_flat ns, ?_⟩
    refine ⟨a, wl, ws, i, _, rfl, hC, hi, fun hb H' b c => ⟨_, rfl, k1 x (.str x) e ⟨inv_t hb, rfl⟩ H' b c⟩, fun hb => k2 fun x' v e' f' => ?_⟩
    rw [e] at e'
    cases e'
    rw [inV_strs, decide_eq_true f'.1] at hb
    cases hb
/-! ### Cursor.take_new_name@x -/
def sp_Cursor_take_new_name_x (T : Txt K mg) : Sp := fun vs H Q E => ∃ (a wl pn : Addr) (ws ns : List Str) (i : Nat), vs = [.ref a, .ref pn] ∧ CuS T.C_Cursor H a wl ws i ∧ H pn = some (.lst (ns.map V.str)) ∧ i < 1000 ∧ Wds ws ∧ DeedK T.C_Cursor T.C_BadText H a wl ws i (.fresh ns) Q E

theorem ok_Cursor_take_new_name_x (T : Txt K mg) : FnOk P w K mg base (L2.CX P w) 5 T.a_Cursor_take_new_name T.d_Cursor_take_new_name ["self", "names"] (sp_Cursor_take_new_name_x T) := by
  refine T.F_Cursor_take_new_name.okX sc_Cursor_take_new_name (fun vs H Q E h => ?_) (fun cdv A outer s H vs Q E hr h => ?_)
  · obtain ⟨a, wl, pn, ws, ns, i, rfl, _⟩ := h
    rfl
  obtain ⟨a, wl, pn, ws, ns, i, rfl, hC, hn, hi, hW, k1, k2⟩ := h
  refine ⟨_, (pss_cons (ps_set (i := 2) sc_Cursor_take_new_name.nd rfl (by first | exact Or.inl rfl | exact Or.inr rfl) (pe_prop (pv 0) T.cl_Cursor T.pr_Cursor_word (ok_Cursor_word T) (hr.mono (by decide)) T.b_Cursor_word .nil pass0 rfl))
      (pss_cons (ps_expr (pe_methT (pv 0) T.cl_Cursor T.me_Cursor_pass_if (ok_Cursor_pass_if_x T) (hr.mono (by decide)) T.b_Cursor_pass_if .nil (fun σ => passAt (takes_of rfl rfl rfl rfl) σ) (pa_cons (pe_and (pe_cmpR op_notN (pv 2) pe_non (nomark _)) (pe_and (pe_call (ok_is_name T) (hr.mono (by decide)) (by rfl) T.m_is_name T.F_is_name.kp T.b_is_name .nil pass0 (pa_cons (pv 2) pa_nil)) (pe_one (pe_cmpR op_notIn_seq (pv 2) (pv 1) (by with_unfolding_all rfl))))) pa_nil)))
      (pss_one (ps_ret (pv 2))))), ?_⟩
  obtain ⟨dx, z1, z2, ha, hw⟩ := id hC
  refine ⟨_, rfl, a, dx, _, rfl, ha, a, wl, ws, i, rfl, hC, ?_⟩
  refine ⟨_, rfl, a, dx, _, rfl, ha, cu_no cu_meths.1, _, rfl, rfl, _, rfl, ?_⟩
  cases e : ws[i]? with
  | none =>
    have eh : hereV ws i = .non := by unfold hereV; rw [e]
    rw [eh]
    refine iteF ?_
    refine ⟨a, wl, ws, i, _, rfl, hC, hi, fun hb => Bool.noConfusion hb, fun _ => k2 fun x v e' _ => by rw [e] at e'; cases e'⟩
  | some x =>
    have eh : hereV ws i = .str x := by unfold hereV; rw [e]
    rw [eh]
    refine iteT ?_
    refine ⟨_, rfl, x, rfl, (hW x (List.mem_of_getElem? e)).2, fun b H1 s1 hb => ⟨_, rfl, ?_⟩⟩
    have bad : (¬ Fit (.fresh ns) x (.str x)) → ∀ d H', Same H1 H' → H1 d = none → H' d = some (.xd [("at", .int (i : Nat))]) → E (.ref T.C_BadText) (some d) H' := fun nf d H' s2 nd hv => k2 (fun x' v e' f' => by
      rw [e] at e'
      cases e'
      exact nf ⟨f'.1, f'.2.1, rfl⟩) d H' (s1.trans s2) (none_back s1 nd) hv
    cases b with
    | false =>
      refine iteF ?_
      exact ⟨a, wl, ws, i, _, rfl, hC.same s1, hi, fun h => Bool.noConfusion h, fun _ => bad fun f => by
        have := hb.mpr f.1
        cases this⟩
    | true =>
      refine iteT ?_
      refine ⟨_, rfl, _, rfl, pn, ns.map V.str, rfl, .inl (SqL.of (s1 _ _ hn)), rfl, strs_flat ns, ?_⟩
      exact ⟨a, wl, ws, i, _, rfl, hC.same s1, hi, fun h H' b c => ⟨_, rfl, k1 x (.str x) e ⟨hb.mp rfl, not_in h, rfl⟩ H' ((but_of s1).trans b) c⟩, fun h => bad fun f => by
        have : (!inV (.str x) (ns.map V.str)) = true := by
          rw [inV_strs, decide_eq_false f.2.1]
          rfl
        rw [this] at h
        cases h⟩
/-! ### _law_pool -/
def sp_law_pool (T : Txt K mg) : Sp := fun vs H Q _ => ∃ (a : Addr) (ns : List Int) (b : Int), vs = [.ref a, .int b] ∧ SqL K H a (ns.map V.int) ∧ ∀ (p c : Addr) (H' : Hp), Same H H' → H p = none → H c = none → Pool H' p c b → Q (.ref p) H'

theorem ok_law_pool (T : Txt K mg) : FnOk P w K mg base CX0 1 T.a_law_pool T.d_law_pool ["script", "budget"] (sp_law_pool T) := by
  refine T.F_law_pool.ok sc_law_pool (fun vs H Q E h => ?_) (fun cdv A outer s H vs Q E hr h => ?_)
  · obtain ⟨a, ns, b, rfl, _⟩ := h
    rfl
  obtain ⟨a, ns, b, rfl, hS, q⟩ := h
  refine ⟨_, (pss_one (ps_ret (pe_lst (pa_cons (pe_callTy call_list_of (by rfl) T.z_list (by first | exact PySem.boot_list | decide +kernel) (pa_cons (pv 0) pa_nil)) (pa_cons pe_int (pa_cons pe_int (pa_cons pe_int (pa_cons pe_int (pa_cons (pv 1) pa_nil))))))))), ?_⟩
  refine ⟨_, rfl, a, _, rfl, .inl hS, fun c hc => ⟨_, rfl, by show 6 ≤ sizeLine; decide, fun p hp => ?_⟩⟩
  refine q p c _ (upd2_same hc hp) ((same_upd hc).free hp) hc ⟨ns, 0, 0, 1, 0, upd_same, same_upd hp _ _ upd_same, Int.le_refl 0, fun z => ?_⟩
  rw [z] at hp
  rw [upd_same] at hp
  cases hp
/-! ### _law_draw -/
def sp_law_draw (T : Txt K mg) : Sp := fun vs H Q _ => ∃ (p c : Addr) (n b : Int), vs = [.ref p, .int n] ∧ 0 < n ∧ n < 1073741824 ∧ Pool H p c b ∧ ∀ (k : Int) (H' : Hp), 0 ≤ k → k < n → But p H H' → Pool H' p c b → Q (.int k) H'

theorem ok_law_draw (T : Txt K mg) : FnOk P w K mg base CX0 1 T.a_law_draw T.d_law_draw ["pool", "size"] (sp_law_draw T) := by
  refine T.F_law_draw.ok sc_law_draw (fun vs H Q E h => ?_) (fun cdv A outer s H vs Q E hr h => ?_)
  · obtain ⟨p, c, n, b, rfl, _⟩ := h
    rfl
  obtain ⟨p, c, n, b, rfl, hn, hn2, hP, q⟩ := h
  have hP0 := hP
  obtain ⟨ns, i, r, u, t, hp, hc, hi, hcp⟩ := hP
  refine ⟨_, (C8.pss_cut (ps_if (PW.pt (pw_and (pt_cmpR op_le (pe_ix ix_list (pv 0) pe_int (fun _ _ => rfl)) pe_int (nomark _)) (pw_and (pt_cmpR op_le (pe_ix ix_list (pv 0) pe_int (fun _ _ => rfl)) pe_int (nomark _)) (pw_and1 (pt_cmpR op_lt (pe_ix ix_list (pv 0) pe_int (fun _ _ => rfl)) (pe_callB call_len_seq (by rfl) T.z_len (by first | exact PySem.boot_len | decide +kernel) (pa_cons (pe_ix ix_list (pv 0) pe_int (fun _ _ => rfl)) pa_nil)) (nomark _)))))) (pss_cons (ps_set (i := 2) sc_law_draw.nd rfl (by first | exact Or.inl rfl | exact Or.inr rfl) (pe_ix ix_list (pe_ix ix_list (pv 0) pe_int (fun _ _ => rfl)) (pe_ix ix_list (pv 0) pe_int (fun _ _ => rfl)) (fun _ _ => rfl)))
      (pss_cons (ps_asg (pe_op op_add (pe_ix ix_list (pv 0) pe_int (fun _ _ => rfl)) pe_int) (pg_sub (pv 0) pe_int set_list))
      (pss_cons (ps_asg (pe_op op_mod (pe_callTy call_int1 (by rfl) T.z_int (by first | exact PySem.boot_int | decide +kernel) (pa_cons (pe_op op_add (pe_op op_mul (pe_ix ix_list (pv 0) pe_int (fun _ _ => rfl)) pe_int) (pv 2)) pa_nil)) pe_int) (pg_sub (pv 0) pe_int set_list))
      (pss_cons (ps_asg pe_int (pg_sub (pv 0) pe_int set_list))
      (pss_one (ps_if (pt_cmpR op_ge (pv 2) (pe_op op_pow pe_int pe_int) (nomark _)) (pss_one (ps_asg (pv 2) (pg_sub (pv 0) pe_int set_list))) pss_nil)))))) pss_nil)
      (pss_cons (ps_if (pt_cmpR op_gt (pe_ix ix_list (pv 0) pe_int (fun _ _ => rfl)) pe_int (nomark _)) (pss_cons (ps_set (i := 3) sc_law_draw.nd rfl (by first | exact Or.inl rfl | exact Or.inr rfl) (pe_op op_mod (pe_callTy call_int1 (by rfl) T.z_int (by first | exact PySem.boot_int | decide +kernel) (pa_cons (pe_ix ix_list (pv 0) pe_int (fun _ _ => rfl)) pa_nil)) (pv 1)))
      (pss_cons (ps_asg (pe_op op_fdiv (pe_ix ix_list (pv 0) pe_int (fun _ _ => rfl)) (pv 1)) (pg_sub (pv 0) pe_int set_list))
      (pss_cons (ps_asg pe_int (pg_sub (pv 0) pe_int set_list))
      (pss_one (ps_ret (pv 3)))))) pss_nil)
      (pss_cons (ps_asg (pe_op op_sub (pe_ix ix_list (pv 0) pe_int (fun _ _ => rfl)) pe_int) (pg_sub (pv 0) pe_int set_list))
      (pss_cons (ps_asg (pe_op op_mod (pe_callTy call_int1 (by rfl) T.z_int (by first | exact PySem.boot_int | decide +kernel) (pa_cons (pe_op op_add (pe_op op_mul (pe_ix ix_list (pv 0) pe_int (fun _ _ => rfl)) pe_int) pe_int) pa_nil)) pe_int) (pg_sub (pv 0) pe_int set_list))
      (pss_one (ps_ret (pe_op op_mod (pe_op op_mod (pe_callTy call_int1 (by rfl) T.z_int (by first | exact PySem.boot_int | decide +kernel) (pa_cons (pe_op op_add (pe_op op_mul (pe_ix ix_list (pv 0) pe_int (fun _ _ => rfl)) pe_int) pe_int) pa_nil)) pe_int) (pv 1)))))))), ?_⟩
  let ps : Int → Int → Int → Int → List V := fun i r u t => [.ref c, .int i, .int r, .int u, .int t, .int b]
  have at0 : ∀ i r u t, atI (ps i r u t) 0 = some (.ref c) := fun _ _ _ _ => atI_nat (j := 0) rfl
  have at1 : ∀ i r u t, atI (ps i r u t) 1 = some (.int i) := fun _ _ _ _ => atI_nat (j := 1) rfl
  have at2 : ∀ i r u t, atI (ps i r u t) 2 = some (.int r) := fun _ _ _ _ => atI_nat (j := 2) rfl
  have at3 : ∀ i r u t, atI (ps i r u t) 3 = some (.int u) := fun _ _ _ _ => atI_nat (j := 3) rfl
  have at4 : ∀ i r u t, atI (ps i r u t) 4 = some (.int t) := fun _ _ _ _ => atI_nat (j := 4) rfl
  refine ⟨fun σ' H' => ∃ y i r u t, σ' = [some (.ref p), some (.int n), y, none] ∧ But p H H' ∧ H' p = some (.lst (ps i r u t)) ∧ 0 ≤ i, ?_, ?_⟩
  · refine ⟨_, rfl, p, _, 2, .int r, rfl, rfl, SqL.of hp, at2 _ _ _ _, _, _, rfl, rfl, _, rfl, ite2 (fun _ => ?_) (fun _ => ⟨none, i, r, u, t, rfl, But.refl _ _, hp, hi⟩)⟩
    refine ⟨_, rfl, p, _, 4, .int t, rfl, rfl, SqL.of hp, at4 _ _ _ _, _, _, rfl, rfl, _, rfl, ite2 (fun _ => ?_) (fun _ => ⟨none, i, r, u, t, rfl, But.refl _ _, hp, hi⟩)⟩
    refine ⟨_, rfl, p, _, 1, .int i, rfl, rfl, SqL.of hp, at1 _ _ _ _, _, rfl, p, _, 0, .ref c, rfl, rfl, SqL.of hp, at0 _ _ _ _, c, _, rfl, .inl (SqL.of hc), _, _, rfl, rfl, _, rfl, ite2 (fun c3 => ?_) (fun _ => ⟨none, i, r, u, t, rfl, But.refl _ _, hp, hi⟩)⟩
    have c3' : i < (((ns.map V.int).length : Nat) : Int) := of_decide_eq_true c3
    rw [List.length_map] at c3'
    have hlt : i.toNat < ns.length := by omega
    have gi : (ns.map V.int)[i.toNat]? = some (.int ns[i.toNat]) := by rw [List.getElem?_map, List.getElem?_eq_getElem hlt]; rfl
    -- cell = pool[0][pool[1]]
    refine ⟨_, rfl, p, _, 0, .ref c, rfl, rfl, SqL.of hp, at0 _ _ _ _, _, rfl, p, _, 1, .int i, rfl, rfl, SqL.of hp, at1 _ _ _ _, c, _, i, _, rfl, rfl, SqL.of hc, at_of (j := i.toNat) (by omega) gi, ?_⟩
    generalize ns[i.toNat] = z
    -- pool[1] = pool[1] + 1; pool[3] = ..; pool[4] = 7
    refine ⟨_, rfl, p, _, 1, .int i, rfl, rfl, SqL.of hp, at1 _ _ _ _, _, _, rfl, rfl, _, rfl, p, _, 1, 1, rfl, rfl, hp, rfl, ?_⟩
    refine ⟨_, rfl, p, ps (i + 1) r u t, 3, .int u, rfl, rfl, SqL.of upd_same, at3 _ _ _ _, _, _, rfl, rfl, .inr ⟨by decide, by decide⟩, _, rfl, _, _, rfl, rfl, .inl ⟨_, rfl, _, _, rfl, rfl, by show (0 : Int) < 2147483647; decide, _, rfl, p, ps (i + 1) r u t, 3, 3, rfl, rfl, upd_same, rfl, ?_⟩⟩
    rw [upd_upd]
    refine ⟨_, rfl, p, ps (i + 1) r ((u * 31 + z) % 2147483647) t, 4, 4, rfl, rfl, upd_same, rfl, ?_⟩
    rw [upd_upd]
    -- if cell >= 10 ** 18: pool[2] = cell
    refine ⟨_, rfl, _, _, rfl, rfl, ⟨by decide, by decide, by decide⟩, _, _, rfl, rfl, _, rfl, ite2 (fun _ => ?_) (fun _ => ?_)⟩
    · refine ⟨_, rfl, _, rfl, p, ps (i + 1) r ((u * 31 + z) % 2147483647) 7, 2, 2, rfl, rfl, upd_same, rfl, ?_⟩
      rw [upd_upd]
      exact ⟨_, i + 1, z, _, 7, rfl, but_upd, upd_same, by omega⟩
    · exact ⟨_, i + 1, r, _, 7, rfl, but_upd, upd_same, by omega⟩
  clear hp hi at0
  rintro σ1 H1 ⟨y, i, r, u, t, rfl, b1, hp, hi⟩
  have hc1 : H1 c = some (.lst (ns.map V.int)) := b1 _ _ hcp hc
  refine ⟨_, rfl, p, _, 2, .int r, rfl, rfl, SqL.of hp, at2 _ _ _ _, _, _, rfl, rfl, _, rfl, ite2 (fun _ => ?_) (fun _ => ?_)⟩
  · -- a large cell is used up
    refine ⟨_, rfl, p, _, 2, .int r, rfl, rfl, SqL.of hp, at2 _ _ _ _, .inl ⟨_, rfl, _, rfl, _, _, rfl, rfl, hn, ?_⟩⟩
    refine ⟨_, rfl, p, _, 2, .int r, rfl, rfl, SqL.of hp, at2 _ _ _ _, _, rfl, _, _, rfl, rfl, ⟨hn, hn2⟩, _, rfl, p, _, 2, 2, rfl, rfl, hp, rfl, ?_⟩
    refine ⟨_, rfl, p, ps i (r / n) u t, 4, 4, rfl, rfl, upd_same, rfl, ?_⟩
    rw [upd_upd]
    refine ⟨_, rfl, q _ _ (Int.emod_nonneg _ (by omega)) (Int.emod_lt_of_pos _ hn) (b1.trans but_upd) ⟨ns, i, r / n, u, 0, upd_same, ?_, hi, hcp⟩⟩
    rw [upd_ne hcp]
    exact hc1
  · refine ⟨_, rfl, p, _, 4, .int t, rfl, rfl, SqL.of hp, at4 _ _ _ _, _, _, rfl, rfl, _, rfl, p, _, 4, 4, rfl, rfl, hp, rfl, ?_⟩
    refine ⟨_, rfl, p, ps i r u (t - 1), 3, .int u, rfl, rfl, SqL.of upd_same, at3 _ _ _ _, _, _, rfl, rfl, .inr ⟨by decide, by decide⟩, _, _, rfl, rfl, .inl ⟨_, rfl, _, _, rfl, rfl, by show (0 : Int) < 2147483647; decide, _, rfl, p, ps i r u (t - 1), 3, 3, rfl, rfl, upd_same, rfl, ?_⟩⟩
    rw [upd_upd]
    refine ⟨_, rfl, p, ps i r ((u * 48271 + 12345) % 2147483647) (t - 1), 3, _, rfl, rfl, SqL.of upd_same, at3 _ _ _ _, _, _, rfl, rfl, .inr ⟨by decide, by decide⟩, _, _, rfl, rfl, .inl ⟨_, rfl, _, _, rfl, rfl, by show (0 : Int) < 2147483647; decide, _, rfl, _, _, rfl, rfl, hn, ?_⟩⟩
    refine q _ _ (Int.emod_nonneg _ (by omega)) (Int.emod_lt_of_pos _ hn) (b1.trans but_upd) ⟨ns, i, r, _, t - 1, upd_same, ?_, hi, hcp⟩
    rw [upd_ne hcp]
    exact hc1
/-! ### _law_few -/
def sp_law_few (T : Txt K mg) : Sp := fun vs H Q _ => ∃ (p c : Addr) (m b : Int), vs = [.ref p, .int m] ∧ 0 ≤ m ∧ m < 1000 ∧ Pool H p c b ∧ ∀ (k : Int) (H' : Hp), 0 ≤ k → k ≤ m → But p H H' → Pool H' p c b → Q (.int k) H'

theorem ok_law_few (T : Txt K mg) : FnOk P w K mg base CX0 2 T.a_law_few T.d_law_few ["pool", "most"] (sp_law_few T) := by
  refine T.F_law_few.ok sc_law_few (fun vs H Q E h => ?_) (fun cdv A outer s H vs Q E hr h => ?_)
  · obtain ⟨p, c, m, b, rfl, _⟩ := h
    rfl
  obtain ⟨p, c, m, b, rfl, m0, m1, hP, q⟩ := h
  refine ⟨_, (pss_cons (ps_set (i := 2) sc_law_few.nd rfl (by first | exact Or.inl rfl | exact Or.inr rfl) (pe_call (ok_law_draw T) (hr.mono (by decide)) (by rfl) T.m_law_draw T.F_law_draw.kp T.b_law_draw .nil pass0 (pa_cons (pv 0) (pa_cons pe_int pa_nil))))
      (pss_cons (ps_if (pt_cmpR op_eq (pv 2) pe_int (nomark _)) (pss_one (ps_ret (pe_call (ok_law_draw T) (hr.mono (by decide)) (by rfl) T.m_law_draw T.F_law_draw.kp T.b_law_draw .nil pass0 (pa_cons (pv 0) (pa_cons (pe_op op_add (pv 1) pe_int) pa_nil))))) pss_nil)
      (pss_one (ps_ret (pe_callB (call_min2 rfl) (by rfl) T.z_min (by first | exact PySem.boot_min | decide +kernel) (pa_cons (pv 2) (pa_cons (pv 1) pa_nil))))))), ?_⟩
  refine ⟨_, rfl, p, c, 4, b, rfl, by decide, by decide, hP, fun k H1 h0 h1 b1 P1 => ?_⟩
  refine ⟨_, rfl, rfl, _, rfl, ite2 (fun _ => ⟨_, rfl, _, rfl, _, _, rfl, rfl, p, c, m + 1, b, rfl, by omega, by omega, P1, fun k2 H2 g0 g1 b2 P2 => q _ _ g0 (by omega) (b1.trans b2) P2⟩) (fun _ => ⟨_, rfl, _, rfl, _, _, rfl, ?_⟩)⟩
  exact q _ _ (by split <;> omega) (by split <;> omega) b1 P1
/-! ### _law_number -/
def sp_law_number (T : Txt K mg) : Sp := fun vs H Q _ => ∃ (p c : Addr) (b : Int), vs = [.ref p] ∧ Pool H p c b ∧ ∀ (k : Int) (H' : Hp), Bd k → But p H H' → Pool H' p c b → Q (.int k) H'

theorem ok_law_number (T : Txt K mg) : FnOk P w K mg base CX0 2 T.a_law_number T.d_law_number ["pool"] (sp_law_number T) := by
  refine T.F_law_number.ok sc_law_number (fun vs H Q E h => ?_) (fun cdv A outer s H vs Q E hr h => ?_)
  · obtain ⟨p, c, b, rfl, _⟩ := h
    rfl
  obtain ⟨p, c, b, rfl, hP, q⟩ := h
  refine ⟨_, (pss_cons (ps_if (pt_cmpR op_eq (pe_call (ok_law_draw T) (hr.mono (by decide)) (by rfl) T.m_law_draw T.F_law_draw.kp T.b_law_draw .nil pass0 (pa_cons (pv 0) (pa_cons pe_int pa_nil))) pe_int (nomark _)) (pss_one (ps_ret (pe_call (ok_law_draw T) (hr.mono (by decide)) (by rfl) T.m_law_draw T.F_law_draw.kp T.b_law_draw .nil pass0 (pa_cons (pv 0) (pa_cons pe_int pa_nil))))) pss_nil)
      (pss_one (ps_ret (pe_call (ok_law_draw T) (hr.mono (by decide)) (by rfl) T.m_law_draw T.F_law_draw.kp T.b_law_draw .nil pass0 (pa_cons (pv 0) (pa_cons pe_int pa_nil)))))), ?_⟩
  refine ⟨_, rfl, p, c, 3, b, rfl, by decide, by decide, hP, fun k H1 h0 h1 b1 P1 => ?_⟩
  refine ⟨rfl, _, rfl, ite2 (fun _ => ?_) (fun _ => ?_)⟩
  · exact ⟨_, rfl, p, c, 65536, b, rfl, by decide, by decide, P1, fun k2 H2 g0 g1 b2 P2 => q _ _ ⟨g0, g1⟩ (b1.trans b2) P2⟩
  · exact ⟨_, rfl, p, c, 9, b, rfl, by decide, by decide, P1, fun k2 H2 g0 g1 b2 P2 => q _ _ ⟨g0, by omega⟩ (b1.trans b2) P2⟩
/-! ### _law_same -/
def sp_law_same (T : Txt K mg) (n : Nat) : Sp := fun vs H Q _ => ∃ (x y : V) (d : PyData), vs = [x, y] ∧ Da H x d ∧ Da H y d ∧ d.depth < n ∧ wide d = true ∧ Q (.bl true) H
theorem no_law_same (T : Txt K mg) : ∀ vs H Q E, ¬ sp_law_same T 0 vs H Q E := fun vs H Q E ⟨_, _, _, _, _, _, h, _⟩ => Nat.not_lt_zero _ h

theorem step_law_same (T : Txt K mg) {n : Nat} (G : FnOk P w K mg base CX0 (0 + n) T.a_law_same T.d_law_same ["actual", "due"] (sp_law_same T n)) : FnOk P w K mg base CX0 (0 + n + 1) T.a_law_same T.d_law_same ["actual", "due"] (sp_law_same T (n + 1)) := by
  refine T.F_law_same.ok sc_law_same (fun vs H Q E h => ?_) (fun cdv A outer s H vs Q E hr h => ?_)
  · obtain ⟨x, y, d, rfl, _⟩ := h
    rfl
  obtain ⟨x, y, d, rfl, hx, hy, hd, hw, q⟩ := h
  refine ⟨_, (pss_cons (ps_if (PW.pt (pw_or (pt_truth (pe_callB call_isi (by rfl) T.z_isinstance (by first | exact PySem.boot_isinstance | decide +kernel) (pa_cons (pv 1) (pa_cons (pe_bltn (v := .ty "tuple") (by rfl) T.z_tuple (by decide +kernel) rfl) pa_nil))) (fun _ => rfl)) (pw_or1 (pt_truth (pe_callB call_isi (by rfl) T.z_isinstance (by first | exact PySem.boot_isinstance | decide +kernel) (pa_cons (pv 1) (pa_cons (pe_bltn (v := .ty "list") (by rfl) T.z_list (by decide +kernel) rfl) pa_nil))) (fun _ => rfl))))) (pss_cons (ps_if (PW.pt (pw_or (pt_cmpR op_ne (pe_callB call_isi (by rfl) T.z_isinstance (by first | exact PySem.boot_isinstance | decide +kernel) (pa_cons (pv 1) (pa_cons (pe_bltn (v := .ty "tuple") (by rfl) T.z_tuple (by decide +kernel) rfl) pa_nil))) (pe_callB call_isi (by rfl) T.z_isinstance (by first | exact PySem.boot_isinstance | decide +kernel) (pa_cons (pv 0) (pa_cons (pe_bltn (v := .ty "tuple") (by rfl) T.z_tuple (by decide +kernel) rfl) pa_nil))) (nomark _)) (pw_or1 (pt_cmpR op_ne (pe_callB call_isi (by rfl) T.z_isinstance (by first | exact PySem.boot_isinstance | decide +kernel) (pa_cons (pv 1) (pa_cons (pe_bltn (v := .ty "list") (by rfl) T.z_list (by decide +kernel) rfl) pa_nil))) (pe_callB call_isi (by rfl) T.z_isinstance (by first | exact PySem.boot_isinstance | decide +kernel) (pa_cons (pv 0) (pa_cons (pe_bltn (v := .ty "list") (by rfl) T.z_list (by decide +kernel) rfl) pa_nil))) (nomark _))))) (pss_one (ps_ret pe_bl)) pss_nil)
      (pss_cons (ps_if (pt_cmpR op_ne (pe_callB call_len_seq (by rfl) T.z_len (by first | exact PySem.boot_len | decide +kernel) (pa_cons (pv 0) pa_nil)) (pe_callB call_len_seq (by rfl) T.z_len (by first | exact PySem.boot_len | decide +kernel) (pa_cons (pv 1) pa_nil)) (nomark _)) (pss_one (ps_ret pe_bl)) pss_nil)
      (pss_cons (ps_for PassesOwn.never rfl (pi_range1 (by rfl) T.z_range (pa_cons (pe_callB call_len_seq (by rfl) T.z_len (by first | exact PySem.boot_len | decide +kernel) (pa_cons (pv 1) pa_nil)) pa_nil)) (pg_name (i := 2) sc_law_same.nd rfl (by first | exact Or.inl rfl | exact Or.inr rfl)) (pss_one (ps_if (pt_not (pt_truth (pe_call G hr (by rfl) T.m_law_same T.F_law_same.kp T.b_law_same .nil pass0 (pa_cons (pe_ix (IxR.or ix_list ix_tup) (pv 0) (pv 2) (fun _ _ => rfl)) (pa_cons (pe_ix (IxR.or ix_list ix_tup) (pv 1) (pv 2) (fun _ _ => rfl)) pa_nil))) (fun _ => rfl))) (pss_one (ps_ret pe_bl)) pss_nil)))
      (pss_one (ps_ret pe_bl))))) pss_nil)
      (pss_cons (ps_if (PW.pt (pw_or (pt_cmpR op_isN (pv 1) pe_non (nomark _)) (pw_or1 (pt_truth (pe_callB call_isi (by rfl) T.z_isinstance (by first | exact PySem.boot_isinstance | decide +kernel) (pa_cons (pv 1) (pa_cons (pe_bltn (v := .ty "bool") (by rfl) T.z_bool (by decide +kernel) rfl) pa_nil))) (fun _ => rfl))))) (pss_one (ps_ret (pe_and (pe_cmpR op_eq (pe_cmpR op_isN (pv 0) pe_non (nomark _)) (pe_cmpR op_isN (pv 1) pe_non (nomark _)) (nomark _)) (pe_and (pe_or (pe_cmpR op_isN (pv 1) pe_non (nomark _)) (pe_one (pe_callB call_isi (by rfl) T.z_isinstance (by first | exact PySem.boot_isinstance | decide +kernel) (pa_cons (pv 0) (pa_cons (pe_bltn (v := .ty "bool") (by rfl) T.z_bool (by decide +kernel) rfl) pa_nil))))) (pe_one (pe_cmpR op_eq (pv 0) (pv 1) (nomark _))))))) pss_nil)
      (pss_cons (ps_if (pt_truth (pe_callB call_isi (by rfl) T.z_isinstance (by first | exact PySem.boot_isinstance | decide +kernel) (pa_cons (pv 1) (pa_cons (pe_bltn (v := .ty "int") (by rfl) T.z_int (by decide +kernel) rfl) pa_nil))) (fun _ => rfl)) (pss_one (ps_ret (pe_and (pe_callB call_isi (by rfl) T.z_isinstance (by first | exact PySem.boot_isinstance | decide +kernel) (pa_cons (pv 0) (pa_cons (pe_bltn (v := .ty "int") (by rfl) T.z_int (by decide +kernel) rfl) pa_nil))) (pe_and (pe_not (pe_callB call_isi (by rfl) T.z_isinstance (by first | exact PySem.boot_isinstance | decide +kernel) (pa_cons (pv 0) (pa_cons (pe_bltn (v := .ty "bool") (by rfl) T.z_bool (by decide +kernel) rfl) pa_nil)))) (pe_one (pe_cmpR op_eq (pv 0) (pv 1) (nomark _))))))) pss_nil)
      (pss_one (ps_ret (pe_and (pe_callB call_isi (by rfl) T.z_isinstance (by first | exact PySem.boot_isinstance | decide +kernel) (pa_cons (pv 0) (pa_cons (pe_bltn (v := .ty "str") (by rfl) T.z_str (by decide +kernel) rfl) pa_nil))) (pe_one (pe_cmpR op_eq (pv 0) (pv 1) (nomark _))))))))), ?_⟩
  cases d with
  | dict kvs => cases hx
  | none =>
    cases hx
    cases hy
    refine ⟨_, rfl, .non, .ty "tuple", .type "NoneType", .type "tuple", false, rfl, .ty _, .base .non, kit_ty (by decide +kernel), false, rfl, ?_⟩
    refine ⟨_, rfl, .non, .ty "list", .type "NoneType", .type "list", false, rfl, .ty _, .base .non, kit_ty (by decide +kernel), false, rfl, ?_⟩
    refine ⟨_, rfl, rfl, _, rfl, ?_⟩
    refine ⟨_, rfl, rfl, _, rfl, rfl, rfl, _, rfl, ?_⟩
    refine ⟨_, rfl, rfl, _, rfl, ?_⟩
    exact ⟨_, rfl, _, rfl, _, rfl, rfl, q⟩
  | bool b =>
    cases hx
    cases hy
    refine ⟨_, rfl, .bl b, .ty "tuple", .type "bool", .type "tuple", false, rfl, .ty _, .base (.bl b), kit_ty (by decide +kernel), false, rfl, ?_⟩
    refine ⟨_, rfl, .bl b, .ty "list", .type "bool", .type "list", false, rfl, .ty _, .base (.bl b), kit_ty (by decide +kernel), false, rfl, ?_⟩
    refine ⟨_, rfl, rfl, _, rfl, ?_⟩
    refine ⟨_, rfl, .bl b, .ty "bool", .type "bool", .type "bool", true, rfl, .ty _, .base (.bl b), kit_ty (by decide +kernel), true, rfl, ?_⟩
    refine ⟨_, rfl, rfl, _, rfl, rfl, rfl, _, rfl, ?_⟩
    refine ⟨_, rfl, rfl, _, rfl, ?_⟩
    refine ⟨_, rfl, .bl b, .ty "bool", .type "bool", .type "bool", true, rfl, .ty _, .base (.bl b), kit_ty (by decide +kernel), _, rfl, ?_⟩
    refine ⟨_, rfl, _, rfl, rfl, ?_⟩
    show Q (.bl (decide (V.bl b = V.bl b))) _
    rw [decide_eq_true rfl]
    exact q
  | int i =>
    cases hx
    cases hy
    refine ⟨_, rfl, .int i, .ty "tuple", .type "int", .type "tuple", false, rfl, .ty _, .base (.int i), kit_ty (by decide +kernel), false, rfl, ?_⟩
    refine ⟨_, rfl, .int i, .ty "list", .type "int", .type "list", false, rfl, .ty _, .base (.int i), kit_ty (by decide +kernel), false, rfl, ?_⟩
    refine ⟨_, rfl, rfl, _, rfl, ?_⟩
    refine ⟨_, rfl, .int i, .ty "bool", .type "int", .type "bool", false, rfl, .ty _, .base (.int i), kit_ty (by decide +kernel), false, rfl, ?_⟩
    refine ⟨_, rfl, .int i, .ty "int", .type "int", .type "int", true, rfl, .ty _, .base (.int i), kit_ty (by decide +kernel), true, rfl, ?_⟩
    refine ⟨_, rfl, .int i, .ty "int", .type "int", .type "int", true, rfl, .ty _, .base (.int i), kit_ty (by decide +kernel), _, rfl, ?_⟩
    refine ⟨_, rfl, .int i, .ty "bool", .type "int", .type "bool", false, rfl, .ty _, .base (.int i), kit_ty (by decide +kernel), _, rfl, _, rfl, ?_⟩
    refine ⟨_, rfl, _, rfl, rfl, ?_⟩
    show Q (.bl (decide (V.int i = V.int i))) _
    rw [decide_eq_true rfl]
    exact q
  | str x =>
    cases hx
    cases hy
    refine ⟨_, rfl, .str x, .ty "tuple", .type "str", .type "tuple", false, rfl, .ty _, .base (.str x), kit_ty (by decide +kernel), false, rfl, ?_⟩
    refine ⟨_, rfl, .str x, .ty "list", .type "str", .type "list", false, rfl, .ty _, .base (.str x), kit_ty (by decide +kernel), false, rfl, ?_⟩
    refine ⟨_, rfl, rfl, _, rfl, ?_⟩
    refine ⟨_, rfl, .str x, .ty "bool", .type "str", .type "bool", false, rfl, .ty _, .base (.str x), kit_ty (by decide +kernel), false, rfl, ?_⟩
    refine ⟨_, rfl, .str x, .ty "int", .type "str", .type "int", false, rfl, .ty _, .base (.str x), kit_ty (by decide +kernel), false, rfl, ?_⟩
    refine ⟨_, rfl, .str x, .ty "str", .type "str", .type "str", true, rfl, .ty _, .base (.str x), kit_ty (by decide +kernel), _, rfl, ?_⟩
    refine ⟨_, rfl, _, rfl, rfl, ?_⟩
    show Q (.bl (decide (V.str x = V.str x))) _
    rw [decide_eq_true rfl]
    exact q
  | tuple ds =>
    cases hx with
    | @tup px xs _ hpx lx ex =>
    cases hy with
    | @tup py ys _ hpy ly ey =>
    simp only [wide, Bool.and_eq_true, decide_eq_true_eq] at hw
    have hl : ((xs.length : Nat) : Int) = ((ys.length : Nat) : Int) := by rw [lx, ly]
    refine ⟨_, rfl, .ref py, .ty "tuple", .type "tuple", .type "tuple", true, rfl, .ty _, .base (.tup hpy), kit_ty (by decide +kernel), true, rfl, ?_⟩
    refine ⟨_, rfl, .ref py, .ty "tuple", .type "tuple", .type "tuple", true, rfl, .ty _, .base (.tup hpy), kit_ty (by decide +kernel), _, rfl, .ref px, .ty "tuple", .type "tuple", .type "tuple", true, rfl, .ty _, .base (.tup hpx), kit_ty (by decide +kernel), rfl, _, rfl, ?_⟩
    refine ⟨_, rfl, .ref py, .ty "list", .type "tuple", .type "list", false, rfl, .ty _, .base (.tup hpy), kit_ty (by decide +kernel), _, rfl, .ref px, .ty "list", .type "tuple", .type "list", false, rfl, .ty _, .base (.tup hpx), kit_ty (by decide +kernel), rfl, _, rfl, ?_⟩
    refine ⟨_, rfl, px, xs, rfl, .inr (SqT.of hpx), _, rfl, py, ys, rfl, .inr (SqT.of hpy), rfl, _, rfl, iteNS (congrArg V.int hl) ?_⟩
    refine ⟨_, rfl, py, ys, rfl, .inr (SqT.of hpy), _, rfl, by omega, by omega, for_range (fun i σ' H' => ∃ yk, σ' = [some (.ref px), some (.ref py), yk] ∧ H' = H) ⟨_, rfl, rfl⟩ ?_ ?_⟩
    · rintro i σ1 H1 hi ⟨yk, rfl, rfl⟩
      have hi2 : i < ds.length := by rw [← ly]; exact hi
      have gd : ds[i]? = some ds[i] := List.getElem?_eq_getElem hi2
      have gx : xs[i]? = some xs[i] := List.getElem?_eq_getElem (by rw [lx]; exact hi2)
      have gy : ys[i]? = some ys[i] := List.getElem?_eq_getElem (by rw [ly]; exact hi2)
      have e0 : (0 : Int) + (i : Int) = ((i : Nat) : Int) := Int.zero_add _
      refine ⟨_, rfl, _, rfl, .inr ⟨px, xs, _, _, rfl, rfl, SqT.of hpx, at_of e0 gx, _, rfl, _, rfl, .inr ⟨py, ys, _, _, rfl, rfl, SqT.of hpy, at_of e0 gy, xs[i], ys[i], ds[i], rfl, ex i _ _ gx gd, ey i _ _ gy gd, ?_, wide_get hw.2 gd, true, rfl, _, rfl, rfl⟩⟩⟩
      have dg := depth_get gd
      simp only [PyData.depth] at hd
      omega
    · rintro σ1 H1 ⟨yk, rfl, rfl⟩
      exact q
  | list ds =>
    cases hx with
    | @lst px xs _ hpx lx ex =>
    cases hy with
    | @lst py ys _ hpy ly ey =>
    simp only [wide, Bool.and_eq_true, decide_eq_true_eq] at hw
    have hl : ((xs.length : Nat) : Int) = ((ys.length : Nat) : Int) := by rw [lx, ly]
    refine ⟨_, rfl, .ref py, .ty "tuple", .type "list", .type "tuple", false, rfl, .ty _, .base (.lst hpy), kit_ty (by decide +kernel), false, rfl, ?_⟩
    refine ⟨_, rfl, .ref py, .ty "list", .type "list", .type "list", true, rfl, .ty _, .base (.lst hpy), kit_ty (by decide +kernel), true, rfl, ?_⟩
    refine ⟨_, rfl, .ref py, .ty "tuple", .type "list", .type "tuple", false, rfl, .ty _, .base (.lst hpy), kit_ty (by decide +kernel), _, rfl, .ref px, .ty "tuple", .type "list", .type "tuple", false, rfl, .ty _, .base (.lst hpx), kit_ty (by decide +kernel), rfl, _, rfl, ?_⟩
    refine ⟨_, rfl, .ref py, .ty "list", .type "list", .type "list", true, rfl, .ty _, .base (.lst hpy), kit_ty (by decide +kernel), _, rfl, .ref px, .ty "list", .type "list", .type "list", true, rfl, .ty _, .base (.lst hpx), kit_ty (by decide +kernel), rfl, _, rfl, ?_⟩
    refine ⟨_, rfl, px, xs, rfl, .inl (SqL.of hpx), _, rfl, py, ys, rfl, .inl (SqL.of hpy), rfl, _, rfl, iteNS (congrArg V.int hl) ?_⟩
    refine ⟨_, rfl, py, ys, rfl, .inl (SqL.of hpy), _, rfl, by omega, by omega, for_range (fun i σ' H' => ∃ yk, σ' = [some (.ref px), some (.ref py), yk] ∧ H' = H) ⟨_, rfl, rfl⟩ ?_ ?_⟩
    · rintro i σ1 H1 hi ⟨yk, rfl, rfl⟩
      have hi2 : i < ds.length := by rw [← ly]; exact hi
      have gd : ds[i]? = some ds[i] := List.getElem?_eq_getElem hi2
      have gx : xs[i]? = some xs[i] := List.getElem?_eq_getElem (by rw [lx]; exact hi2)
      have gy : ys[i]? = some ys[i] := List.getElem?_eq_getElem (by rw [ly]; exact hi2)
      have e0 : (0 : Int) + (i : Int) = ((i : Nat) : Int) := Int.zero_add _
      refine ⟨_, rfl, _, rfl, .inl ⟨px, xs, _, _, rfl, rfl, SqL.of hpx, at_of e0 gx, _, rfl, _, rfl, .inl ⟨py, ys, _, _, rfl, rfl, SqL.of hpy, at_of e0 gy, xs[i], ys[i], ds[i], rfl, ex i _ _ gx gd, ey i _ _ gy gd, ?_, wide_get hw.2 gd, true, rfl, _, rfl, rfl⟩⟩⟩
      have dg := depth_get gd
      simp only [PyData.depth] at hd
      omega
    · rintro σ1 H1 ⟨yk, rfl, rfl⟩
      exact q
theorem ok_law_same (T : Txt K mg) : ∀ n, FnOk P w K mg base CX0 (0 + n) T.a_law_same T.d_law_same ["actual", "due"] (sp_law_same T n)
  | 0 => ⟨fun vs H Q E h => absurd h (no_law_same T vs H Q E), fun A outer s H args us vs Q E _ _ _ _ h => absurd h (no_law_same T vs H Q E)⟩
  | n + 1 => step_law_same T (ok_law_same T n)
/-! ### _law_keys -/
def sp_law_keys (T : Txt K mg) : Sp := fun vs H Q _ => vs = [] ∧ ∀ (p : Addr) (H' : Hp), Same H H' → H p = none → H' p = some (.lst (kwL.map V.str)) → Q (.ref p) H'

theorem ok_law_keys (T : Txt K mg) : FnOk P w K mg base CX0 1 T.a_law_keys T.d_law_keys [] (sp_law_keys T) := by
  refine T.F_law_keys.ok sc_law_keys (fun vs H Q E h => ?_) (fun cdv A outer s H vs Q E hr h => ?_)
  · obtain ⟨rfl, _⟩ := h
    rfl
  obtain ⟨rfl, q⟩ := h
  refine ⟨_, (pss_cons (ps_set (i := 0) sc_law_keys.nd rfl (by first | exact Or.inl rfl | exact Or.inr rfl) pe_str)
      (pss_one (ps_ret (pe_bm PySem.F.plainAttrs_str PySem.F.slot_str_split PySem.F.type_str_split mt_split (pe_op op_add_str (pv 0) pe_str) (pa_cons pe_str pa_nil))))), ?_⟩
  refine ⟨_, rfl, _, _, rfl, rfl, by decide +kernel, rfl, _, _, rfl, rfl, by decide +kernel, by decide +kernel, fun p hp => ?_⟩
  refine q p _ (same_upd hp) hp ?_
  rw [upd_same, kw_split]
/-! ### _law_name -/
def sp_law_name (T : Txt K mg) : Sp := fun vs H Q _ => ∃ (p c pt : Addr) (ts : List Str) (b : Int), vs = [.ref p, .ref pt] ∧ Pool H p c b ∧ pt ≠ p ∧ H pt = some (.lst (ts.map V.str)) ∧ ts.length < 20 ∧ ∀ (x : Str) (H' : Hp), Nm x → x ∉ ts → But p H H' → Pool H' p c b → Q (.str x) H'

theorem ok_law_name (T : Txt K mg) : FnOk P w K mg base CX0 3 T.a_law_name T.d_law_name ["pool", "taken"] (sp_law_name T) := by
  refine T.F_law_name.ok sc_law_name (fun vs H Q E h => ?_) (fun cdv A outer s H vs Q E hr h => ?_)
  · obtain ⟨p, c, pt, ts, b, rfl, _⟩ := h
    rfl
  obtain ⟨p, c, pt, ts, b, rfl, hP, npt, ht, h20, q⟩ := h
  refine ⟨_, (pss_cons (ps_set (i := 2) sc_law_name.nd rfl (by first | exact Or.inl rfl | exact Or.inr rfl) pe_str)
      (pss_cons (ps_set (i := 3) sc_law_name.nd rfl (by first | exact Or.inl rfl | exact Or.inr rfl) (pe_ix ix_str (pv 2) (pe_call (ok_law_draw T) (hr.mono (by decide)) (by rfl) T.m_law_draw T.F_law_draw.kp T.b_law_draw .nil pass0 (pa_cons (pv 0) (pa_cons pe_int pa_nil))) (fun _ _ => rfl)))
      (pss_cons (ps_for PassesOwn.never rfl (pi_range1 (by rfl) T.z_range (pa_cons (pe_call (ok_law_few T) (hr.mono (by decide)) (by rfl) T.m_law_few T.F_law_few.kp T.b_law_few .nil pass0 (pa_cons (pv 0) (pa_cons pe_int pa_nil))) pa_nil)) (pg_name (i := 4) sc_law_name.nd rfl (by first | exact Or.inl rfl | exact Or.inr rfl)) (pss_one (ps_set (i := 3) sc_law_name.nd rfl (by first | exact Or.inl rfl | exact Or.inr rfl) (pe_op op_add_str (pv 3) (pe_ix ix_str (pv 2) (pe_call (ok_law_draw T) (hr.mono (by decide)) (by rfl) T.m_law_draw T.F_law_draw.kp T.b_law_draw .nil pass0 (pa_cons (pv 0) (pa_cons pe_int pa_nil))) (fun _ _ => rfl))))))
      (C8.pss_cut (ps_if (PW.pt (pw_or (pt_cmpR op_in_seq (pv 3) (pv 1) (by with_unfolding_all rfl)) (pw_or1 (pt_cmpR op_in_seq (pv 3) (pe_call0 (ok_law_keys T) (hr.mono (by decide)) (by rfl) T.m_law_keys T.F_law_keys.kp T.b_law_keys .nil pass0) (by with_unfolding_all rfl))))) (pss_one (ps_for PassesOwn.never rfl (pi_range1 (by rfl) T.z_range (pa_cons pe_int pa_nil)) (pg_name (i := 4) sc_law_name.nd rfl (by first | exact Or.inl rfl | exact Or.inr rfl)) (pss_one (ps_if (pt_cmpR op_notIn_seq (pe_op op_add_str pe_str (pe_callTy call_str_int (by rfl) T.z_str (by first | exact PySem.boot_str | decide +kernel) (pa_cons (pv 4) pa_nil))) (pv 1) (by with_unfolding_all rfl)) (pss_one (ps_set (i := 3) sc_law_name.nd rfl (by first | exact Or.inl rfl | exact Or.inr rfl) (pe_op op_add_str pe_str (pe_callTy call_str_int (by rfl) T.z_str (by first | exact PySem.boot_str | decide +kernel) (pa_cons (pv 4) pa_nil))))) pss_nil)))) pss_nil)
      (pss_one (ps_ret (pv 3))))))), ?_⟩
  refine ⟨_, rfl, _, rfl, p, c, 26, b, rfl, by decide, by decide, hP, fun r H1 r0 r1 b1 P1 => ?_⟩
  obtain ⟨d, ad, ld⟩ := ld_let r0 r1
  refine ⟨ldN, r, d, rfl, rfl, by decide +kernel, ad, ?_⟩
  refine ⟨_, rfl, p, c, 11, b, rfl, by decide, by decide, P1, fun m H2 m0 m1 b2 P2 => ?_⟩
  refine ⟨m, rfl, by omega, by omega, for_range (fun i σ' H' => ∃ (x : Str) (y : Option V), σ' = [some (.ref p), some (.ref pt), some (.str ldN), some (.str x), y] ∧ But p H H' ∧ Pool H' p c b ∧ ∃ r, x.cps.toList = d :: r ∧ (∀ d ∈ r, NmC d) ∧ r.length = i) ⟨_, _, rfl, b1.trans b2, P2, [], rfl, (fun _ m => by cases m), rfl⟩ ?_ ?_⟩
  · rintro i σ3 H3 hi ⟨x, y, rfl, b3, P3, rr, xe, xn, xl⟩
    refine ⟨_, rfl, _, rfl, _, rfl, p, c, 36, b, rfl, by decide, by decide, P3, fun r H4 r0 r1 b4 P4 => ?_⟩
    obtain ⟨d2, ad2, ld2⟩ := ld_nm r0 r1
    have xL : x.length = i + 1 := by
      show x.cps.toList.length = i + 1
      rw [xe, List.length_cons, xl]
    refine ⟨ldN, r, d2, rfl, rfl, by decide +kernel, ad2, x, _, rfl, rfl, ?_, ⟨_, _, rfl, b3.trans b4, P4, rr ++ [d2], ?_, ?_, ?_⟩⟩
    · show x.length + 1 ≤ sizeLine
      exact small_le (by omega)
    · rw [app_cps, xe]
      rfl
    · intro d3 m3
      rcases List.mem_append.mp m3 with m3 | m3
      · exact xn d3 m3
      · rw [List.mem_singleton.mp m3]
        exact ld2
    · rw [List.length_append, xl]
      rfl
  · rintro σ3 H3 ⟨x0, y, rfl, b3, P3, rr, xe, xn, xl⟩
    have et := b3 _ _ npt ht
    have xF : NmF x0 := ⟨d, rr, xe, ld, xn, by omega⟩
    refine ⟨fun σ' H' => ∃ (x : Str) (y : Option V), σ' = [some (.ref p), some (.ref pt), some (.str ldN), some (.str x), y] ∧ But p H H' ∧ Pool H' p c b ∧ Nm x ∧ x ∉ ts, ?_, ?_⟩
    · refine ⟨_, rfl, _, rfl, pt, ts.map V.str, rfl, .inl (SqL.of et), rfl, strs_flat ts, _, rfl, ite2 (fun _ => ?_) (fun c1 => ?_)⟩
      · refine ⟨20, rfl, by decide, by decide, for_range (fun i σ' H' => ∃ (x : Str) (y : Option V), σ' = [some (.ref p), some (.ref pt), some (.str ldN), some (.str x), y] ∧ H' = H3 ∧ VW ts x0 i x) ⟨_, _, rfl, rfl, .inr ⟨rfl, fun k z => absurd z (Nat.not_lt_zero k)⟩⟩ ?_ ?_⟩
        · rintro i σ6 H6 hi ⟨x6, y6, rfl, rfl, vw⟩
          obtain ⟨sl, lg⟩ := small_str (k := 0 + (i : Int)) (by omega) (by omega)
          refine ⟨_, rfl, _, rfl, lg, _, _, rfl, rfl, ?_, _, rfl, pt, _, rfl, .inl (SqL.of et), rfl, strs_flat ts, _, rfl, ite2 (fun c => ?_) (fun c => ⟨_, _, rfl, rfl, ?_⟩)⟩
          · show 1 + _ ≤ sizeLine
            exact small_le (by omega)
          · refine ⟨_, rfl, _, rfl, lg, _, _, rfl, rfl, ?_, ⟨_, _, rfl, rfl, .inl ?_⟩⟩
            · show 1 + _ ≤ sizeLine
              exact small_le (by omega)
            · have c2 := not_in c
              show Nm (("v" : Str) ++ Str.ofString (toString (0 + (i : Int)))) ∧ ("v" : Str) ++ Str.ofString (toString (0 + (i : Int))) ∉ ts
              have c2 : ("v" : Str) ++ Str.ofString (toString (0 + (i : Int))) ∉ ts := c2
              rw [vS_val] at c2 ⊢
              exact ⟨vS_nm (by omega), c2⟩
          · have c2 : ("v" : Str) ++ Str.ofString (toString (0 + (i : Int))) ∈ ts := is_in c
            rw [vS_val] at c2
            exact vw.next c2
        · rintro σ6 H6 ⟨x6, y6, rfl, rfl, vw⟩
          obtain ⟨w1, w2⟩ := VW.fin vw h20
          exact ⟨_, _, rfl, b3, P3, w1, w2⟩

      · refine ⟨_, rfl, rfl, fun pk H5 s5 n5 e5 => ?_⟩
        have b5 := b3.trans (but_of s5)
        have P5 := P3.same s5
        have et5 := s5 _ _ et
        refine ⟨pk, _, rfl, .inl (SqL.of e5), rfl, strs_flat kwL, _, rfl, ite2 (fun _ => ?_) (fun c2 => ⟨_, _, rfl, b5, P5, ⟨xF, inv_f c2⟩, inv_f c1⟩)⟩
        refine ⟨20, rfl, by decide, by decide, for_range (fun i σ' H' => ∃ (x : Str) (y : Option V), σ' = [some (.ref p), some (.ref pt), some (.str ldN), some (.str x), y] ∧ H' = H5 ∧ VW ts x0 i x) ⟨_, _, rfl, rfl, .inr ⟨rfl, fun k z => absurd z (Nat.not_lt_zero k)⟩⟩ ?_ ?_⟩
        · rintro i σ6 H6 hi ⟨x6, y6, rfl, rfl, vw⟩
          obtain ⟨sl, lg⟩ := small_str (k := 0 + (i : Int)) (by omega) (by omega)
          refine ⟨_, rfl, _, rfl, lg, _, _, rfl, rfl, ?_, _, rfl, pt, _, rfl, .inl (SqL.of et5), rfl, strs_flat ts, _, rfl, ite2 (fun c => ?_) (fun c => ⟨_, _, rfl, rfl, ?_⟩)⟩
          · show 1 + _ ≤ sizeLine
            exact small_le (by omega)
          · refine ⟨_, rfl, _, rfl, lg, _, _, rfl, rfl, ?_, ⟨_, _, rfl, rfl, .inl ?_⟩⟩
            · show 1 + _ ≤ sizeLine
              exact small_le (by omega)
            · have c2 := not_in c
              show Nm (("v" : Str) ++ Str.ofString (toString (0 + (i : Int)))) ∧ ("v" : Str) ++ Str.ofString (toString (0 + (i : Int))) ∉ ts
              have c2 : ("v" : Str) ++ Str.ofString (toString (0 + (i : Int))) ∉ ts := c2
              rw [vS_val] at c2 ⊢
              exact ⟨vS_nm (by omega), c2⟩
          · have c2 : ("v" : Str) ++ Str.ofString (toString (0 + (i : Int))) ∈ ts := is_in c
            rw [vS_val] at c2
            exact vw.next c2
        · rintro σ6 H6 ⟨x6, y6, rfl, rfl, vw⟩
          obtain ⟨w1, w2⟩ := VW.fin vw h20
          exact ⟨_, _, rfl, b5, P5, w1, w2⟩
    · rintro σ4 H4 ⟨x, y, rfl, b4, P4, nx, fx⟩
      exact ⟨_, rfl, q x H4 nx fx b4 P4⟩
/-! ### _law_is_name -/
def sp_law_is_name (T : Txt K mg) : Sp := fun vs H Q _ => ∃ (x : Str), vs = [.str x] ∧ x.length ≤ 100 ∧ ∀ (b : Bool) (H' : Hp), Same H H' → (b = true ↔ NameP x) → Q (.bl b) H'

theorem ok_law_is_name (T : Txt K mg) : FnOk P w K mg base CX0 2 T.a_law_is_name T.d_law_is_name ["word"] (sp_law_is_name T) := by
  refine T.F_law_is_name.ok sc_law_is_name (fun vs H Q E h => ?_) (fun cdv A outer s H vs Q E hr h => ?_)
  · obtain ⟨x, rfl, _⟩ := h
    rfl
  obtain ⟨x, rfl, hl, q⟩ := h
  refine ⟨_, (C8.pss_cut (ps_set (i := 1) sc_law_is_name.nd rfl (by first | exact Or.inl rfl | exact Or.inr rfl) (pe_and (pe_chain op_le op_le pe_int (pe_callB call_len_str (by rfl) T.z_len (by first | exact PySem.boot_len | decide +kernel) (pa_cons (pv 0) pa_nil)) pe_int) (pe_one (pe_cmpR op_notIn_seq (pv 0) (pe_call0 (ok_law_keys T) (hr.mono (by decide)) (by rfl) T.m_law_keys T.F_law_keys.kp T.b_law_keys .nil pass0) (by with_unfolding_all rfl)))))
      (pss_cons (ps_for PassesOwn.never rfl (pi_range1 (by rfl) T.z_range (pa_cons (pe_callB call_len_str (by rfl) T.z_len (by first | exact PySem.boot_len | decide +kernel) (pa_cons (pv 0) pa_nil)) pa_nil)) (pg_name (i := 2) sc_law_is_name.nd rfl (by first | exact Or.inl rfl | exact Or.inr rfl)) (C8.pss_cut (ps_set (i := 3) sc_law_is_name.nd rfl (by first | exact Or.inl rfl | exact Or.inr rfl) (pe_chain op_le_str op_le_str pe_str (pe_ix ix_str (pv 0) (pv 2) (fun _ _ => rfl)) pe_str))
      (pss_one (ps_set (i := 1) sc_law_is_name.nd rfl (by first | exact Or.inl rfl | exact Or.inr rfl) (pe_and (pv 1) (pe_one (pe_or (pv 3) (pe_one (pe_and (pe_cmpR op_gt (pv 2) pe_int (nomark _)) (pe_one (pe_chain op_le_str op_le_str pe_str (pe_ix ix_str (pv 0) (pv 2) (fun _ _ => rfl)) pe_str)))))))))))
      (pss_one (ps_ret (pv 1))))), ?_⟩
  let base : Prop := 1 ≤ x.length ∧ x.length ≤ 12 ∧ inV (.str x) keyV = false
  refine ⟨fun σ' H' => ∃ g : Bool, σ' = [some (.str x), some (.bl g), none, none] ∧ Same H H' ∧ (g = true ↔ base), ?_, ?_⟩
  · refine ⟨_, rfl, x, rfl, small_le (by omega), _, _, rfl, rfl, _, rfl, ite2 (fun c1 => ?_) (fun c1 => ?_)⟩
    · have c1' : (1 : Int) ≤ (x.length : Int) := of_decide_eq_true c1
      refine ⟨_, _, rfl, rfl, _, rfl, ite2 (fun c2 => ?_) (fun c2 => ?_)⟩
      · have c2' : (x.length : Int) ≤ 12 := of_decide_eq_true c2
        refine ⟨_, rfl, rfl, fun pk H2 s2 n2 e2 => ?_⟩
        refine ⟨pk, keyV, rfl, .inl (SqL.of e2), rfl, key_flat, _, rfl, s2, ?_⟩
        show (!inV (.str x) keyV) = true ↔ base
        rw [Bool.not_eq_true']
        exact ⟨fun z => ⟨by omega, by omega, z⟩, fun z => z.2.2⟩
      · refine ⟨false, rfl, (fun _ _ h => h), ⟨fun z => (by cases z), fun z => ?_⟩⟩
        exact absurd (decide_eq_true (show (x.length : Int) ≤ 12 by have := z.2.1; omega)) c2
    · refine ⟨_, rfl, iteF ?_⟩
      refine ⟨false, rfl, (fun _ _ h => h), ⟨fun z => (by cases z), fun z => ?_⟩⟩
      exact absurd (decide_eq_true (show (1 : Int) ≤ (x.length : Int) by have := z.1; omega)) c1
  rintro σ1 H1 ⟨g, rfl, s1, g1⟩
  refine ⟨_, rfl, x, rfl, small_le (by omega), _, rfl, by omega, by omega, for_range (fun i σ' H' => ∃ (g : Bool) (yk yl : Option V), σ' = [some (.str x), some (.bl g), yk, yl] ∧ H' = H1 ∧ (g = true ↔ base ∧ ∀ (k : Nat) d, k < i → x.cps.toList[k]? = some d → okAt k d)) ⟨g, none, none, rfl, rfl, ?_⟩ ?_ ?_⟩
  · rw [g1]
    exact ⟨fun z => ⟨z, fun k d hk => absurd hk (Nat.not_lt_zero k)⟩, fun z => z.1⟩
  · rintro i σ2 H2 hi ⟨g, yk, yl, rfl, rfl, gi⟩
    have hi2 : i < x.cps.toList.length := by
      have : x.length = x.cps.toList.length := rfl
      omega
    have gc : x.cps.toList[i]? = some (x.cps.toList[i]) := List.getElem?_eq_getElem hi2
    generalize x.cps.toList[i] = c at gc
    have e0 : (0 : Int) + (i : Int) = ((i : Nat) : Int) := Int.zero_add _
    refine ⟨fun σ' H' => ∃ lt : Bool, σ' = [some (.str x), some (.bl g), some (.int (0 + (i : Int))), some (.bl lt)] ∧ H' = H2 ∧ (lt = true ↔ 97 ≤ c ∧ c ≤ 122), ?_, ?_⟩
    · refine ⟨_, rfl, _, rfl, x, _, c, rfl, rfl, small_le (by omega), at_ofG e0 gc, _, _, rfl, rfl, _, rfl, ite2 (fun c1 => ?_) (fun c1 => ?_)⟩
      · refine ⟨_, _, rfl, rfl, _, rfl, rfl, ?_⟩
        exact ⟨fun z => ⟨ge1.mp c1, ge1.mp z⟩, fun z => ge1.mpr z.2⟩
      · refine ⟨false, rfl, rfl, ⟨fun z => (by cases z), fun z => absurd (ge1.mpr z.1) c1⟩⟩
    rintro σ3 H3 ⟨lt, rfl, rfl, hlt⟩
    have fin : ∀ b' : Bool, (b' = true ↔ (g = true ∧ okAt i c)) → (b' = true ↔ base ∧ ∀ (k : Nat) d, k < i + 1 → x.cps.toList[k]? = some d → okAt k d) := fun b' h => by
      rw [h, gi, step_iff gc, and_assoc]
    refine ⟨_, rfl, g, rfl, ite2 (fun g1 => ⟨_, rfl, lt, rfl, ite2 (fun l1 => ?_) (fun l1 => ⟨_, rfl, _, _, rfl, rfl, _, rfl, ite2 (fun k1 => ?_) (fun k1 => ?_)⟩)⟩) (fun g1 => ?_)⟩
    · exact ⟨true, _, _, rfl, rfl, fin true ⟨fun _ => ⟨g1, .inl (hlt.mp l1)⟩, fun _ => rfl⟩⟩
    · have k1' : (0 : Int) < 0 + (i : Int) := of_decide_eq_true k1
      refine ⟨_, rfl, _, rfl, x, _, c, rfl, rfl, small_le (by omega), at_ofG e0 gc, _, _, rfl, rfl, _, rfl, ite2 (fun c1 => ?_) (fun c1 => ?_)⟩
      · refine ⟨_, _, rfl, rfl, _, _, _, rfl, rfl, fin _ ⟨fun z => ⟨g1, .inr ⟨by omega, ge1.mp c1, ge1.mp z⟩⟩, fun z => ?_⟩⟩
        rcases z.2 with z | z
        · exact absurd (hlt.mpr z) l1
        · exact ge1.mpr z.2.2
      · refine ⟨false, _, _, rfl, rfl, fin _ ⟨fun z => (by cases z), fun z => ?_⟩⟩
        rcases z.2 with z | z
        · exact absurd (hlt.mpr z) l1
        · exact absurd (ge1.mpr z.2.1) c1
    · have k1' : ¬ (0 : Int) < 0 + (i : Int) := fun z => k1 (decide_eq_true z)
      refine ⟨false, _, _, rfl, rfl, fin _ ⟨fun z => (by cases z), fun z => ?_⟩⟩
      rcases z.2 with z | z
      · exact absurd (hlt.mpr z) l1
      · exact absurd z.1 (by omega)
    · exact ⟨false, _, _, rfl, rfl, fin _ ⟨fun z => (by cases z), fun z => absurd z.1 g1⟩⟩
  · rintro σ2 H2 ⟨g, yk, yl, rfl, rfl, gi⟩
    refine ⟨_, rfl, q g _ s1 ?_⟩
    rw [gi]
    constructor
    · rintro ⟨⟨z1, z2, z3⟩, z4⟩
      refine ⟨z1, z2, z3, fun k d e => z4 k d ?_ e⟩
      have : k < x.cps.toList.length := (List.getElem?_eq_some_iff.mp e).1
      have : x.length = x.cps.toList.length := rfl
      omega
    · rintro ⟨z1, z2, z3, z4⟩
      exact ⟨⟨z1, z2, z3⟩, fun k d _ e => z4 k d e⟩
/-! ### _law_number_of -/
def sp_law_number_of (T : Txt K mg) : Sp := fun vs H Q _ => ∃ (x : Str), vs = [.str x] ∧ x.length ≤ 100 ∧ ∀ (r : V), NumL x r → Q r H

theorem ok_law_number_of (T : Txt K mg) : FnOk P w K mg base CX0 1 T.a_law_number_of T.d_law_number_of ["word"] (sp_law_number_of T) := by
  refine T.F_law_number_of.ok sc_law_number_of (fun vs H Q E h => ?_) (fun cdv A outer s H vs Q E hr h => ?_)
  · obtain ⟨x, rfl, _⟩ := h
    rfl
  obtain ⟨x, rfl, hl, q⟩ := h
  refine ⟨_, (pss_cons (ps_set (i := 1) sc_law_number_of.nd rfl (by first | exact Or.inl rfl | exact Or.inr rfl) pe_int)
      (pss_cons (ps_for PassesOwn.never rfl (pi_str (pv 0)) (pg_name (i := 2) sc_law_number_of.nd rfl (by first | exact Or.inl rfl | exact Or.inr rfl)) (pss_cons (ps_if (pt_not (pt_chain op_le_str op_le_str pe_str (pv 2) pe_str)) (pss_one (ps_ret (pe_un un_neg pe_int))) pss_nil)
      (pss_one (ps_set (i := 1) sc_law_number_of.nd rfl (by first | exact Or.inl rfl | exact Or.inr rfl) (pe_op op_sub (pe_op op_add (pe_op op_mul (pv 1) pe_int) (pe_callB call_ord (by rfl) T.z_ord (by first | exact PySem.boot_ord | decide +kernel) (pa_cons (pv 2) pa_nil))) pe_int)))))
      (pss_cons (ps_if (PW.pt (pw_or (pt_cmpR op_ne (pe_callTy call_str_int (by rfl) T.z_str (by first | exact PySem.boot_str | decide +kernel) (pa_cons (pv 1) pa_nil)) (pv 0) (nomark _)) (pw_or1 (pt_cmpR op_gt (pv 1) pe_int (nomark _))))) (pss_one (ps_ret (pe_un un_neg pe_int))) pss_nil)
      (pss_one (ps_ret (pv 1)))))), ?_⟩
  have hx0 : x.length = x.cps.toList.length := rfl
  have tkA : x.cps.toList.take x.cps.size = x.cps.toList := List.take_of_length_le (Nat.le_refl _)
  refine ⟨_, rfl, x, rfl, for_it (walk_str (z := x)) (fun i σ' H' => ∃ (y : Option V) (v : Nat), σ' = [some (.str x), some (.int v), y] ∧ H' = H ∧ v = NumText.digitsVal (x.cps.toList.take i) ∧ NumText.AllDigits (x.cps.toList.take i) ∧ v < 10 ^ i)
    ⟨none, 0, rfl, rfl, by rw [List.take_zero]; rfl, by rw [List.take_zero]; exact fun c m => (by cases m), by decide⟩ (fun _ _ _ _ _ => trivial) ?_ ?_⟩
  · rintro i ch σ1 H1 H2 hi ⟨y, v, rfl, rfl, ev, dv, lv⟩ ⟨rfl, c, gc, rfl⟩
    have gl : x.cps.toList[i]? = some c := by rw [Array.getElem?_toList]; exact gc
    have tk : x.cps.toList.take (i + 1) = x.cps.toList.take i ++ [c] := by rw [List.take_add_one, gl]; rfl
    have notd : ¬ (48 ≤ c ∧ c ≤ 57) → NumL x (.int (-1)) := fun z => .inr ⟨fun n hn e => z (TL.numL_digits n c (by rw [← e]; exact List.mem_of_getElem? gl)), rfl⟩
    refine ⟨_, rfl, _, _, rfl, rfl, _, rfl, ite2 (fun c1 => ?_) (fun c1 => ?_)⟩
    · refine ⟨_, _, rfl, rfl, _, rfl, ite2 (fun c2 => ?_) (fun c2 => ?_)⟩
      · refine ⟨1, rfl, q _ (notd fun z => ?_)⟩
        have t : (!decide (("9" : Str).cps.toList < (⟨#[c]⟩ : Str).cps.toList)) = true := ge1.mpr z.2
        rw [t] at c2
        cases c2
      · have c2' : c ≤ 57 := by
          by_cases z : c ≤ 57
          · exact z
          · refine absurd ?_ c2
            cases e : (!decide (("9" : Str).cps.toList < (⟨#[c]⟩ : Str).cps.toList)) with
            | true => exact absurd (ge1.mp e) z
            | false => rfl
        have c1' : 48 ≤ c := ge1.mp c1
        refine ⟨_, rfl, _, _, rfl, rfl, .inr ⟨by decide, by decide⟩, _, rfl, _, rfl, rfl, _, _, rfl, rfl, _, _, rfl, rfl, ?_⟩
        have ci : ((v : Int) * 10 + (c : Int)) - 48 = ((v * 10 + (c - 48) : Nat) : Int) := by omega
        refine ⟨some (.str ⟨#[c]⟩), v * 10 + (c - 48), ?_, rfl, ?_, fun d m => ?_, ?_⟩
        · show [some (V.str x), some (V.int ((v : Int) * 10 + (c : Int) - 48)), some (V.str ⟨#[c]⟩)] = _
          rw [ci]
        · rw [tk, dv_snoc, ← ev]
        · rw [tk] at m
          rcases List.mem_append.mp m with m | m
          · exact dv d m
          · rw [List.mem_singleton.mp m]
            exact ⟨c1', c2'⟩
        · rw [Nat.pow_succ]
          omega
    · refine ⟨_, rfl, iteT ?_⟩
      exact ⟨1, rfl, q _ (notd fun z => c1 (ge1.mpr z.1))⟩
  · rintro σ1 H1 ⟨y, v, rfl, rfl, ev, dv, lv⟩
    rw [tkA] at ev dv
    have uniq : ∀ n, x.cps.toList = TL.numL n → n = v := fun n e => by rw [ev, e, TL.numL_val]
    refine ⟨_, rfl, _, rfl, log_small (Nat.lt_of_lt_of_le lv (Nat.pow_le_pow_right (by decide) (by show x.cps.toList.length ≤ 101; omega))), _, rfl, rfl, _, rfl, ite2 (fun c4 => ?_) (fun c4 => ?_)⟩
    · refine ⟨1, rfl, q _ (.inr ⟨fun n hn e => ?_, rfl⟩)⟩
      have e1 := uniq n e
      subst e1
      rw [decide_eq_true (congrArg V.str (str_num e))] at c4
      cases c4
    · have ex : x.cps.toList = TL.numL v := by
        by_cases y : V.str (Str.ofString (toString ((v : Nat) : Int))) = V.str x
        · exact num_str y
        · exact absurd (by rw [decide_eq_false y]; rfl) c4
      refine ⟨_, rfl, _, _, rfl, rfl, _, rfl, ite2 (fun c3 => ?_) (fun c3 => ?_)⟩
      · have c3' : (65535 : Int) < (v : Int) := of_decide_eq_true c3
        refine ⟨1, rfl, q _ (.inr ⟨fun n hn e => ?_, rfl⟩)⟩
        have := uniq n e
        omega
      · have c3' : ¬ (65535 : Int) < (v : Int) := fun z => c3 (decide_eq_true z)
        exact ⟨_, rfl, q _ (.inl ⟨v, by omega, ex, rfl⟩)⟩
/-! ### _law_word -/
def sp_law_word (T : Txt K mg) : Sp := fun vs H Q _ => ∃ (p c : Addr) (b : Int), vs = [.ref p] ∧ Pool H p c b ∧ ∀ (x : Str) (H' : Hp), Asc x → x.length ≤ 100 → But p H H' → Pool H' p c b → Q (.str x) H'

theorem ok_law_word (T : Txt K mg) : FnOk P w K mg base CX0 4 T.a_law_word T.d_law_word ["pool"] (sp_law_word T) := by
  refine T.F_law_word.ok sc_law_word (fun vs H Q E h => ?_) (fun cdv A outer s H vs Q E hr h => ?_)
  · obtain ⟨p, c, b, rfl, _⟩ := h
    rfl
  obtain ⟨p, c, b, rfl, hP, q⟩ := h
  refine ⟨_, (pss_cons (ps_set (i := 1) sc_law_word.nd rfl (by first | exact Or.inl rfl | exact Or.inr rfl) (pe_call (ok_law_draw T) (hr.mono (by decide)) (by rfl) T.m_law_draw T.F_law_draw.kp T.b_law_draw .nil pass0 (pa_cons (pv 0) (pa_cons pe_int pa_nil))))
      (pss_cons (ps_if (pt_cmpR op_lt (pv 1) pe_int (nomark _)) (pss_one (ps_ret (pe_call (ok_law_name T) (hr.mono (by decide)) (by rfl) T.m_law_name T.F_law_name.kp T.b_law_name .nil pass0 (pa_cons (pv 0) (pa_cons (pe_lst pa_nil) pa_nil))))) pss_nil)
      (pss_cons (ps_if (pt_cmpR op_eq (pv 1) pe_int (nomark _)) (pss_one (ps_ret (pe_callTy call_str_int (by rfl) T.z_str (by first | exact PySem.boot_str | decide +kernel) (pa_cons (pe_call (ok_law_number T) (hr.mono (by decide)) (by rfl) T.m_law_number T.F_law_number.kp T.b_law_number .nil pass0 (pa_cons (pv 0) pa_nil)) pa_nil)))) pss_nil)
      (pss_cons (ps_if (pt_cmpR op_eq (pv 1) pe_int (nomark _)) (pss_one (ps_ret (pe_ix ix_list (pe_call0 (ok_law_keys T) (hr.mono (by decide)) (by rfl) T.m_law_keys T.F_law_keys.kp T.b_law_keys .nil pass0) (pe_call (ok_law_draw T) (hr.mono (by decide)) (by rfl) T.m_law_draw T.F_law_draw.kp T.b_law_draw .nil pass0 (pa_cons (pv 0) (pa_cons pe_int pa_nil))) (fun _ _ => rfl)))) pss_nil)
      (pss_one (ps_ret (pe_ix ix_tup (pe_tup (pa_cons pe_str (pa_cons pe_str (pa_cons pe_str (pa_cons pe_str (pa_cons pe_str (pa_cons pe_str pa_nil))))))) (pe_call (ok_law_draw T) (hr.mono (by decide)) (by rfl) T.m_law_draw T.F_law_draw.kp T.b_law_draw .nil pass0 (pa_cons (pv 0) (pa_cons pe_int pa_nil))) (fun _ _ => rfl)))))))), ?_⟩
  refine ⟨_, rfl, p, c, 5, b, rfl, by decide, by decide, hP, fun k H1 k0 k1 b1 P1 => ?_⟩
  refine ⟨_, rfl, _, _, rfl, rfl, _, rfl, ite2 (fun _ => ?_) (fun _ => ⟨_, rfl, rfl, _, rfl, ite2 (fun _ => ?_) (fun _ => ⟨_, rfl, rfl, _, rfl, ite2 (fun _ => ?_) (fun _ => ?_)⟩)⟩)⟩
  · refine ⟨_, rfl, by show 0 ≤ sizeLine; decide, fun pt fpt => ?_⟩
    refine ⟨p, c, pt, [], b, rfl, P1.same (same_upd fpt), P1.ne fpt, upd_same, by decide, fun x H2 nx fx b2 P2 => ?_⟩
    exact q x H2 nx.1.lt (Nat.le_trans nx.1.len (by decide)) ((b1.trans (but_of (same_upd fpt))).trans b2) P2
  · refine ⟨_, rfl, p, c, b, rfl, P1, fun n H2 bn b2 P2 => ?_⟩
    obtain ⟨m, rfl⟩ : ∃ m : Nat, n = (m : Int) := ⟨n.toNat, by have := bn.1; omega⟩
    have hm : m < 10 ^ 6 := by have := bn.2; omega
    obtain ⟨n1, n2⟩ := num_asc m hm
    exact ⟨_, rfl, log_small (Nat.lt_of_lt_of_le hm (by decide +kernel)), q _ H2 n1 (by omega) (b1.trans b2) P2⟩
  · refine ⟨rfl, fun pk H2 s2 n2 e2 => ?_⟩
    refine ⟨_, rfl, p, c, 26, b, rfl, by decide, by decide, P1.same s2, fun j H3 j0 j1 b3 P3 => ?_⟩
    obtain ⟨w, mw, aw⟩ := pick (ss := kwL) j0 (by show j < 26; omega)
    obtain ⟨w1, w2⟩ := asc_of (n := 100) (ss := kwL) (by decide +kernel) mw
    exact ⟨pk, _, j, _, rfl, rfl, SqL.of (b3 _ _ (P1.ne n2) e2), aw, q w H3 w1 w2 ((b1.trans (but_of s2)).trans b3) P3⟩
  · refine ⟨by show 6 ≤ sizeLine; decide, fun U fU => ?_⟩
    have sU := same_upd (o := .tup ((["", "?", "01", "65536", "abcdefghijklm", "A"] : List Str).map V.str)) fU
    refine ⟨_, rfl, p, c, 6, b, rfl, by decide, by decide, P1.same sU, fun j H3 j0 j1 b3 P3 => ?_⟩
    obtain ⟨w, mw, aw⟩ := pick (ss := ["", "?", "01", "65536", "abcdefghijklm", "A"]) j0 (by show j < 6; omega)
    obtain ⟨w1, w2⟩ := asc_of (n := 100) (ss := ["", "?", "01", "65536", "abcdefghijklm", "A"]) (by decide +kernel) mw
    exact ⟨U, _, j, _, rfl, rfl, SqT.of (b3 _ _ (P1.ne fU) upd_same), aw, q w H3 w1 w2 ((b1.trans (but_of sU)).trans b3) P3⟩
/-! ### _law_deed -/
/-- a deed as it stands -/
def DeedV (H : Hp) (d : Addr) : Deed → Prop
  | .word w => H d = some (.tup [.str "word", .str w, .int 0])
  | .num l m => H d = some (.tup [.str "number", .int l, .int m])
  | .name ns => ns.length ≤ 100 ∧ (∀ x ∈ ns, Asc x) ∧ ∃ t, H d = some (.tup [.str "name", .ref t, .int 0]) ∧ H t = some (.tup (ns.map V.str))
  | .fresh ns => ns.length ≤ 100 ∧ (∀ x ∈ ns, Asc x) ∧ ∃ t, H d = some (.tup [.str "new name", .ref t, .int 0]) ∧ H t = some (.tup (ns.map V.str))
theorem DeedV.keep {H H' : Hp} {d : Addr} (k : KeepT H H') : ∀ {dd : Deed}, DeedV H d dd → DeedV H' d dd
  | .word _, h => k _ _ h
  | .num _ _, h => k _ _ h
  | .name _, ⟨l, x, t, a, b⟩ => ⟨l, x, t, k _ _ a, k _ _ b⟩
  | .fresh _, ⟨l, x, t, a, b⟩ => ⟨l, x, t, k _ _ a, k _ _ b⟩
def sp_law_deed (T : Txt K mg) : Sp := fun vs H Q _ => ∃ (p c : Addr) (b : Int) (hv : V), vs = [.ref p, hv] ∧ Pool H p c b ∧ (hv = .non ∨ ∃ x, hv = .str x ∧ x.length ≤ 100 ∧ Asc x) ∧ ∀ (d : Addr) (dd : Deed) (H' : Hp), But p H H' → Pool H' p c b → DeedV H' d dd → Q (.ref d) H'

theorem ok_law_deed (T : Txt K mg) : FnOk P w K mg base CX0 5 T.a_law_deed T.d_law_deed ["pool", "here"] (sp_law_deed T) := by
  refine T.F_law_deed.ok sc_law_deed (fun vs H Q E h => ?_) (fun cdv A outer s H vs Q E hr h => ?_)
  · obtain ⟨p, c, b, hv, rfl, _⟩ := h
    rfl
  obtain ⟨p, c, b, hv, rfl, hP, hh, q⟩ := h
  refine ⟨_, (pss_cons (ps_set (i := 2) sc_law_deed.nd rfl (by first | exact Or.inl rfl | exact Or.inr rfl) (pe_call (ok_law_draw T) (hr.mono (by decide)) (by rfl) T.m_law_draw T.F_law_draw.kp T.b_law_draw .nil pass0 (pa_cons (pv 0) (pa_cons pe_int pa_nil))))
      (pss_cons (ps_setLc (i := 3) (own := [("k", 8)]) (g := gName 8) (tt := tYes) rfl sc_law_deed.nd rfl rfl (sw_true rfl rfl rfl (by decide +kernel)) (pi_range1 (by rfl) T.z_range (pa_cons (pe_call (ok_law_draw T) (hr.mono (by decide)) (by rfl) T.m_law_draw T.F_law_draw.kp T.b_law_draw .nil pass0 (pa_cons (pv 0) (pa_cons pe_int pa_nil))) pa_nil)) (blkOk_by (N := N_law_deed) (sc := defScope s_law_deed) (by decide +kernel)) (fun _ _ _ _ _ => (pg_name (i := 8) sc_law_deed.nd rfl (by first | exact Or.inl rfl | exact Or.inr rfl))) (fun _ _ _ _ _ => pts_nil) (fun _ _ _ _ _ => (pe_call (ok_law_name T) (hr.mono (by decide)) (by rfl) T.m_law_name T.F_law_name.kp T.b_law_name .nil pass0 (pa_cons (pv 0) (pa_cons (pe_lst pa_nil) pa_nil)))))
      (pss_cons (ps_set (i := 4) sc_law_deed.nd rfl (by first | exact Or.inl rfl | exact Or.inr rfl) (pe_cmpR op_eq (pe_call (ok_law_draw T) (hr.mono (by decide)) (by rfl) T.m_law_draw T.F_law_draw.kp T.b_law_draw .nil pass0 (pa_cons (pv 0) (pa_cons pe_int pa_nil))) pe_int (nomark _)))
      (C8.pss_cut (ps_if (pt_cmpR op_eq (pv 2) pe_int (nomark _)) (pss_cons (ps_set (i := 5) sc_law_deed.nd rfl (by first | exact Or.inl rfl | exact Or.inr rfl) (pe_call (ok_law_word T) (hr.mono (by decide)) (by rfl) T.m_law_word T.F_law_word.kp T.b_law_word .nil pass0 (pa_cons (pv 0) pa_nil)))
      (C8.pss_cut (ps_if (PW.pt (pw_and (pt_truth (pv 4) (fun _ => rfl)) (pw_and1 (pt_cmpR op_notN (pv 1) pe_non (nomark _))))) (pss_one (ps_set (i := 5) sc_law_deed.nd rfl (by first | exact Or.inl rfl | exact Or.inr rfl) (pv 1))) pss_nil)
      (pss_one (ps_ret (pe_tup (pa_cons pe_str (pa_cons (pv 5) (pa_cons pe_int pa_nil)))))))) pss_nil)
      (C8.pss_cut (ps_if (pt_cmpR op_eq (pv 2) pe_int (nomark _)) (pss_cons (ps_set (i := 6) sc_law_deed.nd rfl (by first | exact Or.inl rfl | exact Or.inr rfl) (pe_call (ok_law_number T) (hr.mono (by decide)) (by rfl) T.m_law_number T.F_law_number.kp T.b_law_number .nil pass0 (pa_cons (pv 0) pa_nil)))
      (C8.pss_cut (ps_if (PW.pt (pw_and (pt_truth (pv 4) (fun _ => rfl)) (pw_and1 (pt_cmpR op_notN (pv 1) pe_non (nomark _))))) (pss_one (ps_set (i := 6) sc_law_deed.nd rfl (by first | exact Or.inl rfl | exact Or.inr rfl) (pe_callB (call_max2 rfl) (by rfl) T.z_max (by first | exact PySem.boot_max | decide +kernel) (pa_cons pe_int (pa_cons (pe_op op_sub (pe_call (ok_law_number_of T) (hr.mono (by decide)) (by rfl) T.m_law_number_of T.F_law_number_of.kp T.b_law_number_of .nil pass0 (pa_cons (pv 1) pa_nil)) (pe_call (ok_law_draw T) (hr.mono (by decide)) (by rfl) T.m_law_draw T.F_law_draw.kp T.b_law_draw .nil pass0 (pa_cons (pv 0) (pa_cons pe_int pa_nil)))) pa_nil))))) pss_nil)
      (pss_one (ps_ret (pe_tup (pa_cons pe_str (pa_cons (pv 6) (pa_cons (pe_op op_add (pv 6) (pe_ix ix_tup (pe_tup (pa_cons (pe_call (ok_law_draw T) (hr.mono (by decide)) (by rfl) T.m_law_draw T.F_law_draw.kp T.b_law_draw .nil pass0 (pa_cons (pv 0) (pa_cons pe_int pa_nil))) (pa_cons (pe_call (ok_law_number T) (hr.mono (by decide)) (by rfl) T.m_law_number T.F_law_number.kp T.b_law_number .nil pass0 (pa_cons (pv 0) pa_nil)) pa_nil))) (pe_call (ok_law_draw T) (hr.mono (by decide)) (by rfl) T.m_law_draw T.F_law_draw.kp T.b_law_draw .nil pass0 (pa_cons (pv 0) (pa_cons pe_int pa_nil))) (fun _ _ => rfl))) pa_nil)))))))) pss_nil)
      (C8.pss_cut (ps_if (PW.pt (pw_and (pt_truth (pv 4) (fun _ => rfl)) (pw_and1 (pt_cmpR op_notN (pv 1) pe_non (nomark _))))) (pss_cons (ps_set (i := 7) sc_law_deed.nd rfl (by first | exact Or.inl rfl | exact Or.inr rfl) (pe_call (ok_law_draw T) (hr.mono (by decide)) (by rfl) T.m_law_draw T.F_law_draw.kp T.b_law_draw .nil pass0 (pa_cons (pv 0) (pa_cons (pe_op op_add (pe_callB call_len_seq (by rfl) T.z_len (by first | exact PySem.boot_len | decide +kernel) (pa_cons (pv 3) pa_nil)) pe_int) pa_nil))))
      (pss_one (ps_set (i := 3) sc_law_deed.nd rfl (by first | exact Or.inl rfl | exact Or.inr rfl) (pe_op op_cat (pe_op op_cat (pe_slice sl_list (pv 3) po_none (po_some (pv 7))) (pe_lst (pa_cons (pv 1) pa_nil))) (pe_slice sl_list (pv 3) (po_some (pv 7)) po_none))))) pss_nil)
      (pss_one (ps_ret (pe_tup (pa_cons (pe_ix ix_tup (pe_tup (pa_cons pe_str (pa_cons pe_str pa_nil))) (pe_op op_sub (pv 2) pe_int) (fun _ _ => rfl)) (pa_cons (pe_callTy call_tuple_of (by rfl) T.z_tuple (by first | exact PySem.boot_tuple | decide +kernel) (pa_cons (pv 3) pa_nil)) (pa_cons pe_int pa_nil)))))))))))), ?_⟩
  refine ⟨_, rfl, p, c, 4, b, rfl, by decide, by decide, hP, fun k H1 k0 k1 b1 P1 => ?_⟩
  refine ⟨_, rfl, p, c, 4, b, rfl, by decide, by decide, P1, fun m H2 m0 m1 b2 P2 => ?_⟩
  refine ⟨m, rfl, by omega, by omega, fun D hD => ?_⟩
  have nD := P2.ne hD
  refine lc_range (fun i H' => ∃ ns : List Str, ns.length = i ∧ (∀ x ∈ ns, Asc x) ∧ H' D = some (.lst (ns.map V.str)) ∧ Pool H' p c b ∧ But p H2 H') ⟨[], rfl, (fun _ m => by cases m), upd_same, P2.same (same_upd hD), but_of (same_upd hD)⟩ (fun i H3 hi ⟨ns, el, an, e3, P3, b3⟩ => ?_) (fun H3 ⟨ns, el, an, e3, P3, b3⟩ => ?_)
  · refine ⟨rfl, ?_⟩
    refine ⟨_, rfl, by show 0 ≤ sizeLine; decide, fun pt fpt => ?_⟩
    refine ⟨p, c, pt, [], b, rfl, P3.same (same_upd fpt), P3.ne fpt, upd_same, by decide, fun x H4 nx fx b4 P4 => ?_⟩
    have b34 := (but_of (same_upd (o := .lst []) fpt)).trans b4
    refine ⟨_, b34 _ _ nD e3, ?_, ns ++ [x], by rw [List.length_append, el]; rfl, (fun z mz => (List.mem_append.mp mz).elim (an z) fun mz => by rw [List.mem_singleton.mp mz]; exact nx.1.lt), ?_, P4.upd nD (P2.ne2 hD) _, fun d o nd eo => ?_⟩
    · rw [List.length_map, el]
      exact small1000 (by omega)
    · rw [upd_same, List.map_append]
      rfl
    · rw [upd_ne (ne_of_none eo hD)]
      exact b34 _ _ nd (b3 _ _ nd eo)
  have b03 := (b1.trans b2).trans b3
  have nl : ns.length ≤ 4 := by omega
  refine ⟨_, rfl, p, c, 2, b, rfl, by decide, by decide, P3, fun g H4 g0 g1 b4 P4 => ⟨rfl, ?_⟩⟩
  have e4 := b4 _ _ nD e3
  have b04 := b03.trans b4
  have hs : (!decide (hv = V.non)) = true → ∃ x, hv = .str x ∧ x.length ≤ 100 ∧ Asc x := fun z => by
    rcases hh with rfl | h
    · cases z
    · exact h
  refine ⟨fun σ' H' => ∃ y5 y6 y7 y8 : Option V, σ' = [some (.ref p), some hv, some (.int k), some (.ref D), some (.bl (decide (V.int g = V.int 1))), y5, y6, y7, y8] ∧ H' = H4 ∧ k ≠ 0, ?_, ?_⟩
  · refine ⟨_, rfl, rfl, _, rfl, ite2 (fun c1 => ?_) (fun c1 => ⟨_, _, _, _, rfl, rfl, fun z => c1 (decide_eq_true (congrArg V.int z))⟩)⟩
    refine ⟨_, rfl, p, c, b, rfl, P4, fun w H5 w1 w2 b5 P5 => ?_⟩
    refine ⟨fun σ' H' => ∃ (w' : Str) (y6 y7 y8 : Option V), σ' = [some (.ref p), some hv, some (.int k), some (.ref D), some (.bl (decide (V.int g = V.int 1))), some (.str w'), y6, y7, y8] ∧ H' = H5, ?_, ?_⟩
    · refine ⟨_, rfl, _, rfl, ite2 (fun _ => ⟨_, rfl, rfl, _, rfl, ite2 (fun c2 => ?_) (fun _ => ⟨w, _, _, _, rfl, rfl⟩)⟩) (fun _ => ⟨w, _, _, _, rfl, rfl⟩)⟩
      obtain ⟨x, rfl, lx, ax⟩ := hs c2
      exact ⟨_, rfl, x, _, _, _, rfl, rfl⟩
    rintro σ5 H5' ⟨w', y6, y7, y8, rfl, rfl⟩
    exact ⟨_, rfl, by show 3 ≤ sizeLine; decide, fun d fd => q d (.word w') _ ((b04.trans b5).trans (but_of (same_upd fd))) (P5.same (same_upd fd)) upd_same⟩
  rintro σ4 H4' ⟨y5, y6, y7, y8, rfl, rfl, nk0⟩
  refine ⟨fun σ' H' => ∃ y5 y6 y7 y8 : Option V, σ' = [some (.ref p), some hv, some (.int k), some (.ref D), some (.bl (decide (V.int g = V.int 1))), y5, y6, y7, y8] ∧ H' = H4' ∧ k ≠ 1, ?_, ?_⟩
  · refine ⟨_, rfl, rfl, _, rfl, ite2 (fun c1 => ?_) (fun c1 => ⟨_, _, _, _, rfl, rfl, fun z => c1 (decide_eq_true (congrArg V.int z))⟩)⟩
    refine ⟨_, rfl, p, c, b, rfl, P4, fun l H5 lb b5 P5 => ?_⟩
    have b05 := b04.trans b5
    refine ⟨fun σ' H' => ∃ (l' : Int) (y5 y7 y8 : Option V), σ' = [some (.ref p), some hv, some (.int k), some (.ref D), some (.bl (decide (V.int g = V.int 1))), y5, some (.int l'), y7, y8] ∧ But p H H' ∧ Pool H' p c b, ?_, ?_⟩
    · refine ⟨_, rfl, _, rfl, ite2 (fun _ => ⟨_, rfl, rfl, _, rfl, ite2 (fun c2 => ?_) (fun _ => ⟨l, _, _, _, rfl, b05, P5⟩)⟩) (fun _ => ⟨l, _, _, _, rfl, b05, P5⟩)⟩
      obtain ⟨x, rfl, lx, ax⟩ := hs c2
      refine ⟨_, rfl, x, rfl, lx, fun r hr => ⟨_, rfl, p, c, 2, b, rfl, by decide, by decide, P5, fun j H6 j0 j1 b6 P6 => ?_⟩⟩
      obtain ⟨n, rfl⟩ : ∃ n : Int, r = .int n := by
        rcases hr with ⟨n, _, _, e⟩ | ⟨_, e⟩
        · exact ⟨_, e⟩
        · exact ⟨_, e⟩
      exact ⟨_, _, rfl, rfl, _, _, rfl, ⟨_, _, _, _, rfl, b05.trans b6, P6⟩⟩
    rintro σ5 H5' ⟨l', y5, y7, y8, rfl, b06, P6⟩
    refine ⟨_, rfl, _, rfl, _, rfl, p, c, 3, b, rfl, by decide, by decide, P6, fun a1 H7 a10 a11 b7 P7 => ?_⟩
    refine ⟨_, rfl, p, c, b, rfl, P7, fun a2 H8 a2b b8 P8 => ?_⟩
    refine ⟨by show 2 ≤ sizeLine; decide, fun U fU => ?_⟩
    have sU := same_upd (o := .tup [V.int a1, .int a2]) fU
    refine ⟨_, rfl, p, c, 2, b, rfl, by decide, by decide, P8.same sU, fun j H9 j0 j1 b9 P9 => ?_⟩
    obtain ⟨a, ha⟩ : ∃ a, atI [V.int a1, .int a2] j = some (.int a) := by
      by_cases y : j = 0
      · exact ⟨a1, by rw [y]; exact atI_nat (j := 0) rfl⟩
      · exact ⟨a2, by rw [show j = 1 by omega]; exact atI_nat (j := 1) rfl⟩
    refine ⟨U, _, j, .int a, rfl, rfl, SqT.of (b9 _ _ (P8.ne fU) upd_same), ha, _, _, rfl, rfl, by show 3 ≤ sizeLine; decide, fun d fd => ?_⟩
    exact q d (.num l' (l' + a)) _ (((((b06.trans b7).trans b8).trans (but_of sU)).trans b9).trans (but_of (same_upd fd))) (P9.same (same_upd fd)) upd_same
  rintro σ5 H5 ⟨y5, y6, y7, y8, rfl, rfl, nk1⟩
  refine ⟨fun σ' H' => ∃ (D' : Addr) (ns' : List Str) (y5 y6 y7 y8 : Option V), σ' = [some (.ref p), some hv, some (.int k), some (.ref D'), some (.bl (decide (V.int g = V.int 1))), y5, y6, y7, y8] ∧ But p H H' ∧ Pool H' p c b ∧ H' D' = some (.lst (ns'.map V.str)) ∧ ns'.length ≤ 100 ∧ (∀ x ∈ ns', Asc x), ?_, ?_⟩
  · refine ⟨_, rfl, _, rfl, ite2 (fun _ => ⟨_, rfl, rfl, _, rfl, ite2 (fun c2 => ?_) (fun _ => ⟨D, ns, _, _, _, _, rfl, b04, P4, e4, by omega, an⟩)⟩) (fun _ => ⟨D, ns, _, _, _, _, rfl, b04, P4, e4, by omega, an⟩)⟩
    obtain ⟨x, rfl, lx, ax⟩ := hs c2
    refine ⟨_, rfl, _, rfl, D, _, rfl, .inl (SqL.of e4), _, _, rfl, rfl, p, c, _, b, rfl, by rw [List.length_map]; omega, by rw [List.length_map]; omega, P4, fun j H6 j0 j1 b6 P6 => ?_⟩
    have e6 := b6 _ _ nD e4
    have cut : ∀ lo hi, ∃ us : List Str, cutV (ns.map V.str) lo hi = us.map V.str ∧ us.length ≤ 4 ∧ (∀ x ∈ us, Asc x) := fun lo hi => by
      unfold cutV
      refine ⟨(ns.drop (HT.sIx (ns.map V.str).length 0 lo)).take (HT.sIx (ns.map V.str).length (ns.map V.str).length hi - HT.sIx (ns.map V.str).length 0 lo), by rw [List.map_take, List.map_drop], ?_, fun z mz => an z (List.mem_of_mem_drop (List.mem_of_mem_take mz))⟩
      rw [List.length_take, List.length_drop]
      omega
    refine ⟨_, rfl, _, rfl, _, rfl, D, _, rfl, SqL.of e6, fun A fA => ?_⟩
    obtain ⟨us1, u1, v1, w1⟩ := cut none (some j)
    rw [u1]
    have s1 := same_upd (o := .lst (us1.map V.str)) fA
    refine ⟨_, rfl, by show 1 ≤ sizeLine; decide, fun B fB => ?_⟩
    have s2 := same_upd (o := .lst [V.str x]) fB
    refine ⟨A, B, _, _, rfl, rfl, s2 _ _ upd_same, upd_same, small_le (by rw [List.length_map]; show us1.length + 1 ≤ 1000; omega), fun C fC => ?_⟩
    have s3 := same_upd (o := .lst (us1.map V.str ++ [V.str x])) fC
    have s13 := (s1.trans s2).trans s3
    refine ⟨_, rfl, _, rfl, _, rfl, D, _, rfl, SqL.of (s13 _ _ e6), fun A2 fA2 => ?_⟩
    obtain ⟨us2, u2, v2, w2⟩ := cut (some j) none
    rw [u2]
    have s4 := same_upd (o := .lst (us2.map V.str)) fA2
    refine ⟨C, A2, _, _, rfl, rfl, s4 _ _ upd_same, upd_same, small_le (by rw [List.length_map, List.length_append, List.length_map]; show us1.length + 1 + us2.length ≤ 1000; omega), fun D' fD' => ?_⟩
    have s5 := same_upd (o := .lst (us1.map V.str ++ [V.str x] ++ us2.map V.str)) fD'
    have sA := (s13.trans s4).trans s5
    refine ⟨D', us1 ++ [x] ++ us2, _, _, _, _, rfl, (b04.trans b6).trans (but_of sA), P6.same sA, ?_, ?_, fun z mz => ?_⟩
    · rw [upd_same, List.map_append, List.map_append]
      rfl
    · rw [List.length_append, List.length_append]
      show us1.length + 1 + us2.length ≤ 100
      omega
    · rcases List.mem_append.mp mz with mz | mz
      · rcases List.mem_append.mp mz with mz | mz
        · exact w1 z mz
        · rw [List.mem_singleton.mp mz]
          exact ax
      · exact w2 z mz
  rintro σ6 H6 ⟨D', ns', y5, y6, y7, y8, rfl, b06, P6, e6, l6, a6⟩
  refine ⟨by show 2 ≤ sizeLine; decide, fun U fU => ?_⟩
  have sU := same_upd (o := .tup [V.str "name", .str "new name"]) fU
  by_cases k2 : k = 2
  · subst k2
    refine ⟨_, rfl, _, _, rfl, rfl, U, _, _, .str "name", rfl, rfl, SqT.of upd_same, atI_nat (j := 0) rfl, _, rfl, D', _, rfl, .inl ⟨SqL.of (sU _ _ e6), fun t ft => ⟨by show 3 ≤ sizeLine; decide, fun d fd => ?_⟩⟩⟩
    have s2 := same_upd (o := .tup (ns'.map V.str)) ft
    have s3 := same_upd (o := .tup [V.str "name", .ref t, .int 0]) fd
    exact q d (.name ns') _ (b06.trans (but_of ((sU.trans s2).trans s3))) (P6.same ((sU.trans s2).trans s3)) ⟨l6, a6, t, upd_same, s3 _ _ upd_same⟩
  · obtain rfl : k = 3 := by omega
    refine ⟨_, rfl, _, _, rfl, rfl, U, _, _, .str "new name", rfl, rfl, SqT.of upd_same, atI_nat (j := 1) rfl, _, rfl, D', _, rfl, .inl ⟨SqL.of (sU _ _ e6), fun t ft => ⟨by show 3 ≤ sizeLine; decide, fun d fd => ?_⟩⟩⟩
    have s2 := same_upd (o := .tup (ns'.map V.str)) ft
    have s3 := same_upd (o := .tup [V.str "new name", .ref t, .int 0]) fd
    exact q d (.fresh ns') _ (b06.trans (but_of ((sU.trans s2).trans s3))) (P6.same ((sU.trans s2).trans s3)) ⟨l6, a6, t, upd_same, s3 _ _ upd_same⟩
/-! ### _law_due -/
def sp_law_due (T : Txt K mg) : Sp := fun vs H Q _ => ∃ (d : Addr) (hv : V) (dd : Deed), vs = [.ref d, hv] ∧ DeedV H d dd ∧ (hv = .non ∨ ∃ x, hv = .str x ∧ x.length ≤ 100) ∧
  (∀ x v, hv = .str x → Fit dd x v → ∀ p H', Same H H' → H' p = some (.tup [.str "passed", v]) → Q (.ref p) H') ∧ ((∀ x v, hv = .str x → ¬ Fit dd x v) → ∀ H', Same H H' → Q .non H')

theorem ok_law_due (T : Txt K mg) : FnOk P w K mg base CX0 3 T.a_law_due T.d_law_due ["deed", "here"] (sp_law_due T) := by
  refine T.F_law_due.ok sc_law_due (fun vs H Q E h => ?_) (fun cdv A outer s H vs Q E hr h => ?_)
  · obtain ⟨d, hv, dd, rfl, _⟩ := h
    rfl
  obtain ⟨d, hv, dd, rfl, hD, hh, k1, k2⟩ := h
  refine ⟨_, (pss_cons (ps_if (pt_cmpR op_isN (pv 1) pe_non (nomark _)) (pss_one (ps_ret pe_non)) pss_nil)
      (C8.pss_cut (ps_if (PW.pt (pw_and (pt_cmpR op_eq (pe_ix ix_tup (pv 0) pe_int (fun _ _ => rfl)) pe_str (nomark _)) (pw_and1 (pt_cmpR op_eq (pv 1) (pe_ix ix_tup (pv 0) pe_int (fun _ _ => rfl)) (nomark _))))) (pss_one (ps_ret (pe_tup (pa_cons pe_str (pa_cons pe_non pa_nil))))) pss_nil)
      (C8.pss_cut (ps_if (PW.pt (pw_and (pt_cmpR op_eq (pe_ix ix_tup (pv 0) pe_int (fun _ _ => rfl)) pe_str (nomark _)) (pw_and1 (pt_chain op_le op_le (pe_callB (call_max2 rfl) (by rfl) T.z_max (by first | exact PySem.boot_max | decide +kernel) (pa_cons pe_int (pa_cons (pe_ix ix_tup (pv 0) pe_int (fun _ _ => rfl)) pa_nil))) (pe_call (ok_law_number_of T) (hr.mono (by decide)) (by rfl) T.m_law_number_of T.F_law_number_of.kp T.b_law_number_of .nil pass0 (pa_cons (pv 1) pa_nil)) (pe_ix ix_tup (pv 0) pe_int (fun _ _ => rfl)))))) (pss_one (ps_ret (pe_tup (pa_cons pe_str (pa_cons (pe_call (ok_law_number_of T) (hr.mono (by decide)) (by rfl) T.m_law_number_of T.F_law_number_of.kp T.b_law_number_of .nil pass0 (pa_cons (pv 1) pa_nil)) pa_nil))))) pss_nil)
      (C8.pss_cut (ps_if (PW.pt (pw_and (pt_cmpR op_eq (pe_ix ix_tup (pv 0) pe_int (fun _ _ => rfl)) pe_str (nomark _)) (pw_and1 (pt_cmpR op_in_seq (pv 1) (pe_ix ix_tup (pv 0) pe_int (fun _ _ => rfl)) (by with_unfolding_all rfl))))) (pss_one (ps_ret (pe_tup (pa_cons pe_str (pa_cons (pv 1) pa_nil))))) pss_nil)
      (C8.pss_cut (ps_if (PW.pt (pw_and (pt_cmpR op_eq (pe_ix ix_tup (pv 0) pe_int (fun _ _ => rfl)) pe_str (nomark _)) (pw_and (pt_truth (pe_call (ok_law_is_name T) (hr.mono (by decide)) (by rfl) T.m_law_is_name T.F_law_is_name.kp T.b_law_is_name .nil pass0 (pa_cons (pv 1) pa_nil)) (fun _ => rfl)) (pw_and1 (pt_cmpR op_notIn_seq (pv 1) (pe_ix ix_tup (pv 0) pe_int (fun _ _ => rfl)) (by with_unfolding_all rfl)))))) (pss_one (ps_ret (pe_tup (pa_cons pe_str (pa_cons (pv 1) pa_nil))))) pss_nil)
      (pss_one (ps_ret pe_non))))))), ?_⟩
  rcases hh with rfl | ⟨x, rfl, lx⟩
  · exact ⟨_, rfl, rfl, _, rfl, iteT (k2 (fun _ _ e => by cases e) H (Same.refl H))⟩
  refine ⟨_, rfl, rfl, _, rfl, iteF ?_⟩
  have none : (∀ v, ¬ Fit dd x v) → ∀ H', Same H H' → Q .non H' := fun h H' s => k2 (fun x' v e => by cases e; exact h v) H' s
  have b1 : ("word" : Str) ≠ "number" ∧ ("word" : Str) ≠ "name" ∧ ("word" : Str) ≠ "new name" ∧ ("number" : Str) ≠ "word" ∧ ("number" : Str) ≠ "name" ∧ ("number" : Str) ≠ "new name" ∧ ("name" : Str) ≠ "word" ∧ ("name" : Str) ≠ "number" ∧ ("name" : Str) ≠ "new name" ∧ ("new name" : Str) ≠ "word" ∧ ("new name" : Str) ≠ "number" ∧ ("new name" : Str) ≠ "name" := by decide +kernel
  obtain ⟨n1, n2, n3, n4, n5, n6, n7, n8, n9, n10, n11, n12⟩ := b1
  cases dd with
  | word w =>
    have hD : H d = some (.tup [.str "word", .str w, .int 0]) := hD
    refine ⟨fun σ' H' => σ' = [some (.ref d), some (.str x)] ∧ H' = H ∧ x ≠ w, ?_, ?_⟩
    · refine ⟨_, rfl, d, _, 0, .str "word", rfl, rfl, SqT.of hD, atI_nat (j := 0) rfl, rfl, _, rfl, iteS ?_⟩
      refine ⟨_, rfl, _, rfl, d, _, 1, .str w, rfl, rfl, SqT.of hD, atI_nat (j := 1) rfl, rfl, _, rfl, ite2 (fun c => ?_) (fun c => ⟨rfl, rfl, fun z => c (decide_eq_true (congrArg V.str z))⟩)⟩
      exact ⟨by show 2 ≤ sizeLine; decide, fun p fp => k1 x .non rfl ⟨str_eq c, rfl⟩ p _ (same_upd fp) upd_same⟩
    rintro σ1 H1 ⟨rfl, rfl, nw⟩
    refine ⟨fun σ' H' => σ' = [some (.ref d), some (.str x)] ∧ H' = H1, ⟨_, rfl, d, _, 0, .str "word", rfl, rfl, SqT.of hD, atI_nat (j := 0) rfl, rfl, _, rfl, iteN n1 ⟨rfl, rfl⟩⟩, ?_⟩
    rintro σ1 H1 ⟨rfl, rfl⟩
    refine ⟨fun σ' H' => σ' = [some (.ref d), some (.str x)] ∧ H' = H1, ⟨_, rfl, d, _, 0, .str "word", rfl, rfl, SqT.of hD, atI_nat (j := 0) rfl, rfl, _, rfl, iteN n2 ⟨rfl, rfl⟩⟩, ?_⟩
    rintro σ1 H1 ⟨rfl, rfl⟩
    refine ⟨fun σ' H' => σ' = [some (.ref d), some (.str x)] ∧ H' = H1, ⟨_, rfl, d, _, 0, .str "word", rfl, rfl, SqT.of hD, atI_nat (j := 0) rfl, rfl, _, rfl, iteN n3 ⟨rfl, rfl⟩⟩, ?_⟩
    rintro σ1 H1 ⟨rfl, rfl⟩
    exact none (fun v f => nw f.1) _ (Same.refl _)
  | num l m =>
    have hD : H d = some (.tup [.str "number", .int l, .int m]) := hD
    refine ⟨fun σ' H' => σ' = [some (.ref d), some (.str x)] ∧ H' = H, ⟨_, rfl, d, _, 0, .str "number", rfl, rfl, SqT.of hD, atI_nat (j := 0) rfl, rfl, _, rfl, iteN n4 ⟨rfl, rfl⟩⟩, ?_⟩
    rintro σ1 H1 ⟨rfl, rfl⟩
    refine ⟨fun σ' H' => σ' = [some (.ref d), some (.str x)] ∧ H' = H1 ∧ ∀ v, ¬ Fit (.num l m) x v, ?_, ?_⟩
    · refine ⟨_, rfl, d, _, 0, .str "number", rfl, rfl, SqT.of hD, atI_nat (j := 0) rfl, rfl, _, rfl, iteS ?_⟩
      refine ⟨_, rfl, d, _, 1, .int l, rfl, rfl, SqT.of hD, atI_nat (j := 1) rfl, _, _, rfl, ?_⟩
      refine ⟨_, rfl, x, rfl, lx, fun r hr => ?_⟩
      rcases hr with ⟨n, g1, g2, rfl⟩ | ⟨g, rfl⟩
      · have bad : ¬ (l ≤ (n : Int) ∧ (n : Int) ≤ m) → ∀ v, ¬ Fit (.num l m) x v := fun h v f => by
          obtain ⟨n', f1, f2, f3, f4, _⟩ := f
          have := TL.numL_inj (g2.symm.trans f2)
          subst this
          exact h ⟨f3, f4⟩
        refine ⟨_, _, rfl, rfl, _, rfl, ite2 (fun c1 => ?_) (fun c1 => ⟨_, rfl, iteF ⟨rfl, rfl, bad fun h => c1 (decide_eq_true (by split <;> omega))⟩⟩)⟩
        refine ⟨_, rfl, d, _, 2, .int m, rfl, rfl, SqT.of hD, atI_nat (j := 2) rfl, _, _, rfl, rfl, _, rfl, ite2 (fun c2 => ?_) (fun c2 => ⟨rfl, rfl, bad fun h => c2 (decide_eq_true h.2)⟩)⟩
        have c1' := of_decide_eq_true c1
        have c2' := of_decide_eq_true c2
        refine ⟨_, rfl, x, rfl, lx, fun r hr => ⟨by show 2 ≤ sizeLine; decide, fun p fp => ?_⟩⟩
        obtain rfl : r = .int n := by
          rcases hr with ⟨n', g3, g4, rfl⟩ | ⟨g, _⟩
          · rw [TL.numL_inj (g2.symm.trans g4)]
          · exact absurd g2 (g n g1)
        exact k1 x (.int n) rfl ⟨n, g1, g2, by split at c1' <;> omega, c2', rfl⟩ p _ (same_upd fp) upd_same
      · have bad : ∀ v, ¬ Fit (.num l m) x v := fun v f => by
          obtain ⟨n', f1, f2, _⟩ := f
          exact g n' f1 f2
        refine ⟨_, _, rfl, rfl, _, rfl, ite2 (fun c1 => ?_) (fun c1 => ⟨_, rfl, iteF ⟨rfl, rfl, bad⟩⟩)⟩
        have := of_decide_eq_true c1
        exact absurd this (by split <;> omega)
    rintro σ1 H1 ⟨rfl, rfl, nf⟩
    refine ⟨fun σ' H' => σ' = [some (.ref d), some (.str x)] ∧ H' = H1, ⟨_, rfl, d, _, 0, .str "number", rfl, rfl, SqT.of hD, atI_nat (j := 0) rfl, rfl, _, rfl, iteN n5 ⟨rfl, rfl⟩⟩, ?_⟩
    rintro σ1 H1 ⟨rfl, rfl⟩
    refine ⟨fun σ' H' => σ' = [some (.ref d), some (.str x)] ∧ H' = H1, ⟨_, rfl, d, _, 0, .str "number", rfl, rfl, SqT.of hD, atI_nat (j := 0) rfl, rfl, _, rfl, iteN n6 ⟨rfl, rfl⟩⟩, ?_⟩
    rintro σ1 H1 ⟨rfl, rfl⟩
    exact none nf _ (Same.refl _)
  | name ns =>
    obtain ⟨ln, asc, t, hD, ht⟩ := hD
    refine ⟨fun σ' H' => σ' = [some (.ref d), some (.str x)] ∧ H' = H, ⟨_, rfl, d, _, 0, .str "name", rfl, rfl, SqT.of hD, atI_nat (j := 0) rfl, rfl, _, rfl, iteN n7 ⟨rfl, rfl⟩⟩, ?_⟩
    rintro σ1 H1 ⟨rfl, rfl⟩
    refine ⟨fun σ' H' => σ' = [some (.ref d), some (.str x)] ∧ H' = H1, ⟨_, rfl, d, _, 0, .str "name", rfl, rfl, SqT.of hD, atI_nat (j := 0) rfl, rfl, _, rfl, iteN n8 ⟨rfl, rfl⟩⟩, ?_⟩
    rintro σ1 H1 ⟨rfl, rfl⟩
    refine ⟨fun σ' H' => σ' = [some (.ref d), some (.str x)] ∧ H' = H1 ∧ ∀ v, ¬ Fit (.name ns) x v, ?_, ?_⟩
    · refine ⟨_, rfl, d, _, 0, .str "name", rfl, rfl, SqT.of hD, atI_nat (j := 0) rfl, rfl, _, rfl, iteS ?_⟩
      refine ⟨_, rfl, _, rfl, d, _, 1, .ref t, rfl, rfl, SqT.of hD, atI_nat (j := 1) rfl, t, ns.map V.str, rfl, .inr (SqT.of ht), rfl, strs_flat ns, _, rfl, ite2 (fun c => ?_) (fun c => ⟨rfl, rfl, fun v f => inv_f c f.1⟩)⟩
      exact ⟨_, rfl, by show 2 ≤ sizeLine; decide, fun p fp => k1 x (.str x) rfl ⟨inv_t c, rfl⟩ p _ (same_upd fp) upd_same⟩
    rintro σ1 H1 ⟨rfl, rfl, nf⟩
    refine ⟨fun σ' H' => σ' = [some (.ref d), some (.str x)] ∧ H' = H1, ⟨_, rfl, d, _, 0, .str "name", rfl, rfl, SqT.of hD, atI_nat (j := 0) rfl, rfl, _, rfl, iteN n9 ⟨rfl, rfl⟩⟩, ?_⟩
    rintro σ1 H1 ⟨rfl, rfl⟩
    exact none nf _ (Same.refl _)
  | fresh ns =>
    obtain ⟨ln, asc, t, hD, ht⟩ := hD
    refine ⟨fun σ' H' => σ' = [some (.ref d), some (.str x)] ∧ H' = H, ⟨_, rfl, d, _, 0, .str "new name", rfl, rfl, SqT.of hD, atI_nat (j := 0) rfl, rfl, _, rfl, iteN n10 ⟨rfl, rfl⟩⟩, ?_⟩
    rintro σ1 H1 ⟨rfl, rfl⟩
    refine ⟨fun σ' H' => σ' = [some (.ref d), some (.str x)] ∧ H' = H1, ⟨_, rfl, d, _, 0, .str "new name", rfl, rfl, SqT.of hD, atI_nat (j := 0) rfl, rfl, _, rfl, iteN n11 ⟨rfl, rfl⟩⟩, ?_⟩
    rintro σ1 H1 ⟨rfl, rfl⟩
    refine ⟨fun σ' H' => σ' = [some (.ref d), some (.str x)] ∧ H' = H1, ⟨_, rfl, d, _, 0, .str "new name", rfl, rfl, SqT.of hD, atI_nat (j := 0) rfl, rfl, _, rfl, iteN n12 ⟨rfl, rfl⟩⟩, ?_⟩
    rintro σ1 H1 ⟨rfl, rfl⟩
    refine ⟨fun σ' H' => Same H1 H' ∧ ∀ v, ¬ Fit (.fresh ns) x v, ?_, ?_⟩
    · refine ⟨_, rfl, d, _, 0, .str "new name", rfl, rfl, SqT.of hD, atI_nat (j := 0) rfl, rfl, _, rfl, iteS ?_⟩
      refine ⟨_, rfl, x, rfl, lx, fun b H1 s1 hb => ⟨_, rfl, ite2 (fun c => ?_) (fun c => ⟨s1, fun v f => c (hb.mpr f.1)⟩)⟩⟩
      refine ⟨_, rfl, _, rfl, d, _, 1, .ref t, rfl, rfl, SqT.of (s1 _ _ hD), atI_nat (j := 1) rfl, t, ns.map V.str, rfl, .inr (SqT.of (s1 _ _ ht)), rfl, strs_flat ns, _, rfl, ite2 (fun c2 => ?_) (fun c2 => ⟨s1, fun v f => f.2.1 (is_in c2)⟩)⟩
      exact ⟨_, rfl, by show 2 ≤ sizeLine; decide, fun p fp => k1 x (.str x) rfl ⟨hb.mp c, not_in c2, rfl⟩ p _ (s1.trans (same_upd fp)) upd_same⟩
    rintro σ1 H1 ⟨s1, nf⟩
    exact none nf _ s1
/-! ### _law_done -/
def NamesAt (H : Hp) (pn : Addr) : Deed → Prop
  | .name ns => H pn = some (.lst (ns.map V.str))
  | .fresh ns => H pn = some (.lst (ns.map V.str))
  | _ => True
def sp_law_done (T : Txt K mg) : Sp := fun vs H Q _ => ∃ (a d pn wl : Addr) (ws : List Str) (i : Nat) (dd : Deed), vs = [.ref a, .ref d, .ref pn] ∧ CuS T.C_Cursor H a wl ws i ∧ DeedV H d dd ∧ NamesAt H pn dd ∧ Wds ws ∧ i < 1000 ∧
  (∀ x v, ws[i]? = some x → Fit dd x v → ∀ p H', But a H H' → CuS T.C_Cursor H' a wl ws (i + 1) → H' p = some (.tup [.str "passed", v]) → Q (.ref p) H') ∧
  ((∀ x v, ws[i]? = some x → ¬ Fit dd x v) → ∀ p H', Same H H' → H' p = some (.tup [.str "refused", .int (i : Nat), .bl true]) → Q (.ref p) H')

theorem ok_law_done (T : Txt K mg) : FnOk P w K mg base CX0 6 T.a_law_done T.d_law_done ["cursor", "deed", "names"] (sp_law_done T) := by
  refine T.F_law_done.ok sc_law_done (fun vs H Q E h => ?_) (fun cdv A outer s H vs Q E hr h => ?_)
  · obtain ⟨a, d, pn, wl, ws, i, dd, rfl, _⟩ := h
    rfl
  obtain ⟨a, d, pn, wl, ws, i, dd, rfl, hC, hD, hN, hW, hi, k1, k2⟩ := h
  refine ⟨_, (pss_one (ps_try_asN (i := 3) rfl rfl sc_law_done.nd rfl rfl ⟨rfl, by decide, .inl T.m_BadText⟩ takes0 (fun W pn xe tk ow => (by exact (pss_cons (ps_if (pt_cmpR op_eq (pe_ix (show IxR _ (rIxT K) from ix_tup) (pv 1) pe_int (fun _ _ => rfl)) pe_str (nomark _)) (pss_cons (ps_expr (pe_methT (pv 0) T.cl_Cursor T.me_Cursor_take_word (ok_Cursor_take_word_x T) (hr.mono (by decide)) T.b_Cursor_take_word .nil (fun σ => passAt tk σ) (pa_cons (pe_ix (show IxR _ (rIxT K) from ix_tup) (pv 1) pe_int (fun _ _ => rfl)) pa_nil)))
      (pss_one (ps_ret (pe_tup (pa_cons pe_str (pa_cons pe_non pa_nil)))))) pss_nil)
      (pss_cons (ps_if (pt_cmpR op_eq (pe_ix (show IxR _ (rIxT K) from ix_tup) (pv 1) pe_int (fun _ _ => rfl)) pe_str (nomark _)) (pss_one (ps_ret (pe_tup (pa_cons pe_str (pa_cons (pe_methT (pv 0) T.cl_Cursor T.me_Cursor_take_number (ok_Cursor_take_number_x T) (hr.mono (by decide)) T.b_Cursor_take_number .nil (fun σ => passAt tk σ) (pa_cons (pe_ix (show IxR _ (rIxT K) from ix_tup) (pv 1) pe_int (fun _ _ => rfl)) (pa_cons (pe_ix (show IxR _ (rIxT K) from ix_tup) (pv 1) pe_int (fun _ _ => rfl)) pa_nil))) pa_nil))))) pss_nil)
      (pss_cons (ps_if (pt_cmpR op_eq (pe_ix (show IxR _ (rIxT K) from ix_tup) (pv 1) pe_int (fun _ _ => rfl)) pe_str (nomark _)) (pss_one (ps_ret (pe_tup (pa_cons pe_str (pa_cons (pe_methT (pv 0) T.cl_Cursor T.me_Cursor_take_name (ok_Cursor_take_name_x T) (hr.mono (by decide)) T.b_Cursor_take_name .nil (fun σ => passAt tk σ) (pa_cons (pv 2) pa_nil)) pa_nil))))) pss_nil)
      (pss_one (ps_ret (pe_tup (pa_cons pe_str (pa_cons (pe_methT (pv 0) T.cl_Cursor T.me_Cursor_take_new_name (ok_Cursor_take_new_name_x T) (hr.mono (by decide)) T.b_Cursor_take_new_name .nil (fun σ => passAt tk σ) (pa_cons (pv 2) pa_nil)) pa_nil)))))))))) (fun ae oe cls d pn hz hf => (by exact (by exact (pss_one (by exact (ps_ret (by exact (pe_tup (by exact (pa_cons pe_str (pa_cons (by exact (pe_xf T.e_BadText.xf T.e_BadText.no hz hf (by exact (pv 3)))) (pa_cons (by exact (pe_callB (call_isX hz hf) (by rfl) T.z_isinstance (by first | exact PySem.boot_isinstance | decide +kernel) (by exact (pa_cons (by exact (pv 3)) (pa_cons (by exact (pe_glob (v := .ref T.C_GameError) (by rfl) T.m_GameError rfl)) pa_nil))))) pa_nil)))))))))))))), ?_⟩
  obtain ⟨dx, z1, z2, ha, hw⟩ := id hC
  obtain ⟨u1, u2, u3, u4, u5⟩ := cu_meths
  have b1 : ("word" : Str) ≠ "number" ∧ ("word" : Str) ≠ "name" ∧ ("number" : Str) ≠ "word" ∧ ("number" : Str) ≠ "name" ∧ ("name" : Str) ≠ "word" ∧ ("name" : Str) ≠ "number" ∧ ("new name" : Str) ≠ "word" ∧ ("new name" : Str) ≠ "number" ∧ ("new name" : Str) ≠ "name" := by decide +kernel
  obtain ⟨n1, n2, n3, n4, n5, n6, n7, n8, n9⟩ := b1
  cases dd with
  | word w =>
    have hD : H d = some (.tup [.str "word", .str w, .int 0]) := hD
    refine ⟨_, rfl, d, _, 0, .str "word", rfl, rfl, SqT.of hD, atI_nat (j := 0) rfl, rfl, _, rfl, iteS ?_⟩
    refine ⟨_, rfl, a, dx, _, rfl, ha, cu_no u2, _, rfl, d, _, 1, .str w, rfl, rfl, SqT.of hD, atI_nat (j := 1) rfl, a, wl, ws, i, w, rfl, hC, hi, fun x v e f H' b c => ?_, fun no d' H' s nd hv => ?_⟩
    · exact ⟨by show 2 ≤ sizeLine; decide, fun p fp => k1 x .non e ⟨f.1, rfl⟩ p _ (b.trans (but_of (same_upd fp))) (c.same (same_upd fp)) upd_same⟩
    · refine ⟨true, T.t_BadText, fun _ ea nea => ?_, fun z => Bool.noConfusion z⟩
      refine ⟨_, rfl, rfl, rfl, d', _, _, rfl, hv, rfl, _, rfl, T.C_BadText, d', _, true, rfl, rfl, T.e_BadText.ox, T.e_BadText.xf, T.i_BadText, hv, .inl ⟨.ref T.C_GameError, .ref T.C_GameError, rfl, fun u h => h, T.kk_BadText_GameError⟩, by show 3 ≤ sizeLine; decide, fun p fp => ?_⟩
      exact k2 no p _ (s.trans (same_upd fp)) upd_same
  | num l m =>
    have hD : H d = some (.tup [.str "number", .int l, .int m]) := hD
    refine ⟨_, rfl, d, _, 0, .str "number", rfl, rfl, SqT.of hD, atI_nat (j := 0) rfl, rfl, _, rfl, iteN n3 ?_⟩
    refine ⟨_, rfl, d, _, 0, .str "number", rfl, rfl, SqT.of hD, atI_nat (j := 0) rfl, rfl, _, rfl, iteS ?_⟩
    refine ⟨_, rfl, a, dx, _, rfl, ha, cu_no u3, _, rfl, d, _, 1, .int l, rfl, rfl, SqT.of hD, atI_nat (j := 1) rfl, _, rfl, d, _, 2, .int m, rfl, rfl, SqT.of hD, atI_nat (j := 2) rfl, a, wl, ws, i, l, m, rfl, hC, hi, hW, fun x v e f H' b c => ?_, fun no d' H' s nd hv => ?_⟩
    · exact ⟨by show 2 ≤ sizeLine; decide, fun p fp => k1 x v e f p _ (b.trans (but_of (same_upd fp))) (c.same (same_upd fp)) upd_same⟩
    · refine ⟨true, T.t_BadText, fun _ ea nea => ?_, fun z => Bool.noConfusion z⟩
      refine ⟨_, rfl, rfl, rfl, d', _, _, rfl, hv, rfl, _, rfl, T.C_BadText, d', _, true, rfl, rfl, T.e_BadText.ox, T.e_BadText.xf, T.i_BadText, hv, .inl ⟨.ref T.C_GameError, .ref T.C_GameError, rfl, fun u h => h, T.kk_BadText_GameError⟩, by show 3 ≤ sizeLine; decide, fun p fp => ?_⟩
      exact k2 no p _ (s.trans (same_upd fp)) upd_same
  | name ns =>
    obtain ⟨ln, asc, t, hD, ht⟩ := hD
    refine ⟨_, rfl, d, _, 0, .str "name", rfl, rfl, SqT.of hD, atI_nat (j := 0) rfl, rfl, _, rfl, iteN n5 ?_⟩
    refine ⟨_, rfl, d, _, 0, .str "name", rfl, rfl, SqT.of hD, atI_nat (j := 0) rfl, rfl, _, rfl, iteN n6 ?_⟩
    refine ⟨_, rfl, d, _, 0, .str "name", rfl, rfl, SqT.of hD, atI_nat (j := 0) rfl, rfl, _, rfl, iteS ?_⟩
    refine ⟨_, rfl, a, dx, _, rfl, ha, cu_no u4, _, rfl, a, wl, pn, ws, ns, i, rfl, hC, hN, hi, fun x v e f H' b c => ?_, fun no d' H' s nd hv => ?_⟩
    · exact ⟨by show 2 ≤ sizeLine; decide, fun p fp => k1 x v e f p _ (b.trans (but_of (same_upd fp))) (c.same (same_upd fp)) upd_same⟩
    · refine ⟨true, T.t_BadText, fun _ ea nea => ?_, fun z => Bool.noConfusion z⟩
      refine ⟨_, rfl, rfl, rfl, d', _, _, rfl, hv, rfl, _, rfl, T.C_BadText, d', _, true, rfl, rfl, T.e_BadText.ox, T.e_BadText.xf, T.i_BadText, hv, .inl ⟨.ref T.C_GameError, .ref T.C_GameError, rfl, fun u h => h, T.kk_BadText_GameError⟩, by show 3 ≤ sizeLine; decide, fun p fp => ?_⟩
      exact k2 no p _ (s.trans (same_upd fp)) upd_same
  | fresh ns =>
    obtain ⟨ln, asc, t, hD, ht⟩ := hD
    refine ⟨_, rfl, d, _, 0, .str "new name", rfl, rfl, SqT.of hD, atI_nat (j := 0) rfl, rfl, _, rfl, iteN n7 ?_⟩
    refine ⟨_, rfl, d, _, 0, .str "new name", rfl, rfl, SqT.of hD, atI_nat (j := 0) rfl, rfl, _, rfl, iteN n8 ?_⟩
    refine ⟨_, rfl, d, _, 0, .str "new name", rfl, rfl, SqT.of hD, atI_nat (j := 0) rfl, rfl, _, rfl, iteN n9 ?_⟩
    refine ⟨_, rfl, a, dx, _, rfl, ha, cu_no u5, _, rfl, a, wl, pn, ws, ns, i, rfl, hC, hN, hi, hW, fun x v e f H' b c => ?_, fun no d' H' s nd hv => ?_⟩
    · exact ⟨by show 2 ≤ sizeLine; decide, fun p fp => k1 x v e f p _ (b.trans (but_of (same_upd fp))) (c.same (same_upd fp)) upd_same⟩
    · refine ⟨true, T.t_BadText, fun _ ea nea => ?_, fun z => Bool.noConfusion z⟩
      refine ⟨_, rfl, rfl, rfl, d', _, _, rfl, hv, rfl, _, rfl, T.C_BadText, d', _, true, rfl, rfl, T.e_BadText.ox, T.e_BadText.xf, T.i_BadText, hv, .inl ⟨.ref T.C_GameError, .ref T.C_GameError, rfl, fun u h => h, T.kk_BadText_GameError⟩, by show 3 ≤ sizeLine; decide, fun p fp => ?_⟩
      exact k2 no p _ (s.trans (same_upd fp)) upd_same
/-! ### law -/
theorem make_cursor (T : Txt K mg) {H : Hp} {R : Addr → Hp → Prop} {E : XK} {a : Addr} {ws : List Str} (ha : H a = some (.lst (ws.map V.str)))
    (k : ∀ (x wl : Addr) (H' : Hp), Same H H' → H x = none → H wl = none → CuS T.C_Cursor H' x wl ws 0 → R x H') :
    ∀ x dx, H x = none → H dx = none → dx ≠ x → sp_Cursor_init T [.ref x, .ref a, .ref T.zk_Cursor_init_0, .ref T.zk_Cursor_init_1, .bl false] (upd (upd H dx (.own x)) x (.ins T.C_Cursor dx [])) (fun v H2 => v = .non ∧ R x H2) E := by
  intro x dx nx nd ne
  have s1 : Same H (upd (upd H dx (.own x)) x (.ins T.C_Cursor dx [])) := fun b o e => by rw [upd_ne (ne_of_none e nx), upd_ne (ne_of_none e nd)]; exact e
  exact ⟨x, dx, a, _, _, ws, rfl, upd_same, s1 _ _ ha, T.qzk_Cursor_init_0, T.qzk_Cursor_init_1, fun wl H' hk fw ew ex => ⟨rfl, k x wl H' (fun b o e => hk b o (ne_of_none e nx) (s1 _ _ e)) nx (s1.free fw) ⟨dx, _, _, ex, ew⟩⟩⟩
def sp_law (T : Txt K mg) : Sp := spLaw K

theorem ok_law (T : Txt K mg) : FnOk P w K mg base CX0 9 T.a_law T.d_law ["script"] (sp_law T) := by
  refine T.F_law.ok sc_law (fun vs H Q E h => ?_) (fun cdv A outer s H vs Q E hr h => ?_)
  · obtain ⟨a, ns, rfl, _⟩ := h
    rfl
  obtain ⟨s0, ns0, rfl, hS, h63, q⟩ := h
  refine ⟨_, (pss_cons (ps_set (i := 1) sc_law.nd rfl (by first | exact Or.inl rfl | exact Or.inr rfl) (pe_call (ok_law_pool T) (hr.mono (by decide)) (by rfl) T.m_law_pool T.F_law_pool.kp T.b_law_pool .nil pass0 (pa_cons (pv 0) (pa_cons pe_int pa_nil))))
      (pss_cons (ps_set (i := 2) sc_law.nd rfl (by first | exact Or.inl rfl | exact Or.inr rfl) (pe_call (ok_law_draw T) (hr.mono (by decide)) (by rfl) T.m_law_draw T.F_law_draw.kp T.b_law_draw .nil pass0 (pa_cons (pv 1) (pa_cons pe_int pa_nil))))
      (C8.pss_cut (ps_if (pt_cmpR op_eq (pe_call (ok_law_draw T) (hr.mono (by decide)) (by rfl) T.m_law_draw T.F_law_draw.kp T.b_law_draw .nil pass0 (pa_cons (pv 1) (pa_cons pe_int pa_nil))) pe_int (nomark _)) (pss_one (ps_set (i := 2) sc_law.nd rfl (by first | exact Or.inl rfl | exact Or.inr rfl) (pe_call (ok_law_draw T) (hr.mono (by decide)) (by rfl) T.m_law_draw T.F_law_draw.kp T.b_law_draw .nil pass0 (pa_cons (pv 1) (pa_cons pe_int pa_nil))))) pss_nil)
      (pss_cons (ps_setLc (i := 3) (own := [("k", 10)]) (g := gName 10) (tt := tYes) rfl sc_law.nd rfl rfl (sw_true rfl rfl rfl (by decide +kernel)) (pi_range1 (by rfl) T.z_range (pa_cons (pv 2) pa_nil)) (blkOk_by (N := N_law) (sc := defScope s_law) (by decide +kernel)) (fun _ _ _ _ _ => (pg_name (i := 10) sc_law.nd rfl (by first | exact Or.inl rfl | exact Or.inr rfl))) (fun _ _ _ _ _ => pts_nil) (fun _ _ _ _ _ => (pe_call (ok_law_word T) (hr.mono (by decide)) (by rfl) T.m_law_word T.F_law_word.kp T.b_law_word .nil pass0 (pa_cons (pv 1) pa_nil))))
      (pss_cons (ps_set (i := 4) sc_law.nd rfl (by first | exact Or.inl rfl | exact Or.inr rfl) (pe_callTy call_list_of (by rfl) T.z_list (by first | exact PySem.boot_list | decide +kernel) (pa_cons (pv 3) pa_nil)))
      (pss_cons (ps_set (i := 5) sc_law.nd rfl (by first | exact Or.inl rfl | exact Or.inr rfl) (pe_make T.mk_Cursor (ok_Cursor_init T) (hr.mono (by decide)) (by rfl) T.m_Cursor T.bd_Cursor_init T.v_Cursor_init pass0 (pa_cons (pv 4) pa_nil)))
      (pss_cons (ps_set (i := 6) sc_law.nd rfl (by first | exact Or.inl rfl | exact Or.inr rfl) (pe_callTy call_list_of (by rfl) T.z_list (by first | exact PySem.boot_list | decide +kernel) (pa_cons (pv 3) pa_nil)))
      (pss_cons (ps_set (i := 7) sc_law.nd rfl (by first | exact Or.inl rfl | exact Or.inr rfl) (pe_make T.mk_Cursor (ok_Cursor_init T) (hr.mono (by decide)) (by rfl) T.m_Cursor T.bd_Cursor_init T.v_Cursor_init pass0 (pa_cons (pv 6) pa_nil)))
      (pss_cons (ps_expr (pe_bm PySem.F.plainAttrs_list PySem.F.slot_list_append PySem.F.type_list_append mt_append (pv 6) (pa_cons pe_str pa_nil)))
      (pss_cons (ps_asg pe_str (pg_sub (pv 6) pe_int set_list))
      (pss_cons (ps_set (i := 8) sc_law.nd rfl (by first | exact Or.inl rfl | exact Or.inr rfl) pe_non)
      (C8.pss_cut (ps_if (pt_cmpR op_gt (pe_callB call_len_seq (by rfl) T.z_len (by first | exact PySem.boot_len | decide +kernel) (pa_cons (pv 3) pa_nil)) pe_int (nomark _)) (pss_one (ps_set (i := 8) sc_law.nd rfl (by first | exact Or.inl rfl | exact Or.inr rfl) (pe_ix ix_list (pv 3) pe_int (fun _ _ => rfl)))) pss_nil)
      (pss_cons (ps_if (pt_not (pt_truth (pe_call (ok_law_same T 8) (hr.mono (by decide)) (by rfl) T.m_law_same T.F_law_same.kp T.b_law_same .nil pass0 (pa_cons (pe_prop (pv 7) T.cl_Cursor T.pr_Cursor_word (ok_Cursor_word T) (hr.mono (by decide)) T.b_Cursor_word .nil pass0 rfl) (pa_cons (pv 8) pa_nil))) (fun _ => rfl))) (pss_one (ps_ret pe_bl)) pss_nil)
      (pss_cons (ps_set (i := 9) sc_law.nd rfl (by first | exact Or.inl rfl | exact Or.inr rfl) pe_int)
      (pss_cons (ps_for PassesOwn.never rfl (pi_range1 (by rfl) T.z_range (pa_cons pe_int pa_nil)) (pg_name (i := 10) sc_law.nd rfl (by first | exact Or.inl rfl | exact Or.inr rfl)) (pss_cons (ps_set (i := 11) sc_law.nd rfl (by first | exact Or.inl rfl | exact Or.inr rfl) pe_non)
      (C8.pss_cut (ps_if (pt_cmpR op_lt (pv 9) (pe_callB call_len_seq (by rfl) T.z_len (by first | exact PySem.boot_len | decide +kernel) (pa_cons (pv 3) pa_nil)) (nomark _)) (pss_one (ps_set (i := 11) sc_law.nd rfl (by first | exact Or.inl rfl | exact Or.inr rfl) (pe_ix ix_list (pv 3) (pv 9) (fun _ _ => rfl)))) pss_nil)
      (pss_cons (ps_if (PW.pt (pw_or (pt_not (pt_truth (pe_call (ok_law_same T 8) (hr.mono (by decide)) (by rfl) T.m_law_same T.F_law_same.kp T.b_law_same .nil pass0 (pa_cons (pe_prop (pv 5) T.cl_Cursor T.pr_Cursor_word (ok_Cursor_word T) (hr.mono (by decide)) T.b_Cursor_word .nil pass0 rfl) (pa_cons (pv 11) pa_nil))) (fun _ => rfl))) (pw_or1 (pt_not (pt_truth (pe_call (ok_law_same T 8) (hr.mono (by decide)) (by rfl) T.m_law_same T.F_law_same.kp T.b_law_same .nil pass0 (pa_cons (pe_fld (pv 5) rfl) (pa_cons (pv 9) pa_nil))) (fun _ => rfl)))))) (pss_one (ps_ret pe_bl)) pss_nil)
      (pss_cons (ps_set (i := 12) sc_law.nd rfl (by first | exact Or.inl rfl | exact Or.inr rfl) (pe_call (ok_law_deed T) (hr.mono (by decide)) (by rfl) T.m_law_deed T.F_law_deed.kp T.b_law_deed .nil pass0 (pa_cons (pv 1) (pa_cons (pv 11) pa_nil))))
      (pss_cons (ps_set (i := 13) sc_law.nd rfl (by first | exact Or.inl rfl | exact Or.inr rfl) (pe_call (ok_law_due T) (hr.mono (by decide)) (by rfl) T.m_law_due T.F_law_due.kp T.b_law_due .nil pass0 (pa_cons (pv 12) (pa_cons (pv 11) pa_nil))))
      (C8.pss_cut (ps_set (i := 14) sc_law.nd rfl (by first | exact Or.inl rfl | exact Or.inr rfl) (pe_ifExp (pt_truth (pe_callB call_isi (by rfl) T.z_isinstance (by first | exact PySem.boot_isinstance | decide +kernel) (pa_cons (pe_ix ix_tup (pv 12) pe_int (fun _ _ => rfl)) (pa_cons (pe_bltn (v := .ty "tuple") (by rfl) T.z_tuple (by decide +kernel) rfl) pa_nil))) (fun _ => rfl)) (pe_callTy call_list_of (by rfl) T.z_list (by first | exact PySem.boot_list | decide +kernel) (pa_cons (pe_ix ix_tup (pv 12) pe_int (fun _ _ => rfl)) pa_nil)) (pe_lst pa_nil)))
      (pss_cons (ps_set (i := 15) sc_law.nd rfl (by first | exact Or.inl rfl | exact Or.inr rfl) (pe_call (ok_law_done T) (hr.mono (by decide)) (by rfl) T.m_law_done T.F_law_done.kp T.b_law_done .nil pass0 (pa_cons (pv 5) (pa_cons (pv 12) (pa_cons (pv 14) pa_nil)))))
      (C8.pss_cut (ps_if (PW.pt (pw_and (pt_truth (pe_callB call_isi (by rfl) T.z_isinstance (by first | exact PySem.boot_isinstance | decide +kernel) (pa_cons (pe_ix ix_tup (pv 12) pe_int (fun _ _ => rfl)) (pa_cons (pe_bltn (v := .ty "tuple") (by rfl) T.z_tuple (by decide +kernel) rfl) pa_nil))) (fun _ => rfl)) (pw_and1 (pt_cmpR (op_neD (eq_room hr)) (pv 14) (pe_callTy call_list_of (by rfl) T.z_list (by first | exact PySem.boot_list | decide +kernel) (pa_cons (pe_ix ix_tup (pv 12) pe_int (fun _ _ => rfl)) pa_nil)) (nomark _))))) (pss_one (ps_ret pe_bl)) pss_nil)
      (C8.pss_cut (ps_if (pt_cmpR op_isN (pv 13) pe_non (nomark _)) (pss_one (ps_set (i := 13) sc_law.nd rfl (by first | exact Or.inl rfl | exact Or.inr rfl) (pe_tup (pa_cons pe_str (pa_cons (pv 9) (pa_cons pe_bl pa_nil)))))) (pss_one (ps_set (i := 9) sc_law.nd rfl (by first | exact Or.inl rfl | exact Or.inr rfl) (pe_op op_add (pv 9) pe_int))))
      (pss_one (ps_if (pt_not (pt_truth (pe_call (ok_law_same T 8) (hr.mono (by decide)) (by rfl) T.m_law_same T.F_law_same.kp T.b_law_same .nil pass0 (pa_cons (pv 15) (pa_cons (pv 13) pa_nil))) (fun _ => rfl))) (pss_one (ps_ret pe_bl)) pss_nil))))))))))))
      (pss_one (ps_ret (pe_and (pe_call (ok_law_same T 8) (hr.mono (by decide)) (by rfl) T.m_law_same T.F_law_same.kp T.b_law_same .nil pass0 (pa_cons (pe_fld (pv 5) rfl) (pa_cons (pv 9) pa_nil))) (pe_one (pe_cmpR (op_eqD (eq_room hr)) (pv 4) (pv 3) (nomark _))))))))))))))))))))), ?_⟩
  refine ⟨_, rfl, s0, ns0, 0, rfl, hS, fun p c H1 s1 np nc P1 => ?_⟩
  refine ⟨_, rfl, p, c, 10, 0, rfl, by decide, by decide, P1, fun sz H2 sz0 sz1 b2 P2 => ?_⟩
  refine ⟨fun σ' H' => ∃ sz : Int, σ' = [some (.ref s0), some (.ref p), some (.int sz), none, none, none, none, none, none, none, none, none, none, none, none, none] ∧ Pool H' p c 0 ∧ 0 ≤ sz ∧ sz ≤ 60, ?_, ?_⟩
  · refine ⟨_, rfl, p, c, 4, 0, rfl, by decide, by decide, P2, fun g H3 g0 g1 b3 P3 => ⟨rfl, _, rfl, ite2 (fun _ => ?_) (fun _ => ⟨sz, rfl, P3, sz0, by omega⟩)⟩⟩
    exact ⟨_, rfl, p, c, 61, 0, rfl, by decide, by decide, P3, fun sz' H4 a0 a1 b4 P4 => ⟨sz', rfl, P4, a0, by omega⟩⟩
  clear P1 P2 b2 s1 hS np nc sz0 sz1
  rintro σ3 H3 ⟨sz, rfl, P3, z0, z1⟩
  refine ⟨_, rfl, sz, rfl, by omega, by omega, fun W hW => ?_⟩
  have nW := P3.ne hW
  refine lc_range (fun i H' => ∃ ws : List Str, ws.length = i ∧ Wds ws ∧ H' W = some (.lst (ws.map V.str)) ∧ Pool H' p c 0 ∧ But p H3 H') ⟨[], rfl, (fun _ m => by cases m), upd_same, P3.same (same_upd hW), but_of (same_upd hW)⟩ (fun i H4 hi ⟨ws, el, hw, e4, P4, b4⟩ => ?_) (fun H4 ⟨ws, el, hw, e4, P4, b4⟩ => ?_)
  · refine ⟨rfl, ?_⟩
    refine ⟨_, rfl, p, c, 0, rfl, P4, fun x H5 ax lx b5 P5 => ?_⟩
    refine ⟨_, b5 _ _ nW e4, ?_, ws ++ [x], by rw [List.length_append, el]; rfl, fun z mz => ?_, ?_, P5.upd nW (P3.ne2 hW) _, fun d o nd eo => ?_⟩
    · rw [List.length_map, el]
      exact small1000 (by omega)
    · rcases List.mem_append.mp mz with mz | mz
      · exact hw z mz
      · rw [List.mem_singleton.mp mz]
        exact ⟨ax, lx⟩
    · rw [upd_same, List.map_append]
      rfl
    · rw [upd_ne (ne_of_none eo hW)]
      exact b5 _ _ nd (b4 _ _ nd eo)
  have w60 : ws.length ≤ 60 := by omega
  refine ⟨_, rfl, W, _, rfl, .inl (SqL.of e4), fun pl fpl => ?_⟩
  have s5 := same_upd (o := .lst (ws.map V.str)) fpl
  have npl := P4.ne fpl
  refine ⟨_, rfl, make_cursor T (a := pl) (ws := ws) upd_same fun cu wl H6 s6 fcu fwl hC => ?_⟩
  have ncu := (P4.same s5).ne fcu
  have nwl := (P4.same s5).ne fwl
  have s46 := s5.trans s6
  have e6 := s46 _ _ e4
  have pl6 := s6 _ _ (upd_same (H := H4) (a := pl) (o := .lst (ws.map V.str)))
  have P6 := P4.same s46
  refine ⟨_, rfl, W, _, rfl, .inl (SqL.of e6), fun ch fch => ?_⟩
  have s7 := same_upd (o := .lst (ws.map V.str)) fch
  refine ⟨_, rfl, make_cursor T (a := ch) (ws := ws) upd_same fun ot wl2 H8 s8 fot fwl2 hO => ?_⟩
  have s68 := s7.trans s8
  have ech := s8 _ _ (upd_same (H := H6) (a := ch) (o := .lst (ws.map V.str)))
  have noc : ch ≠ ot := ne_of_none (upd_same (H := H6) (a := ch) (o := .lst (ws.map V.str))) fot
  have nwc : ch ≠ wl2 := ne_of_none (upd_same (H := H6) (a := ch) (o := .lst (ws.map V.str))) fwl2
  refine ⟨_, rfl, .inl ⟨rfl, _, SqL.of ech⟩, ch, _, _, rfl, rfl, ech, by rw [List.length_map]; exact small1000 (by omega), ?_⟩
  refine ⟨_, rfl, ch, _, 0, 0, rfl, rfl, upd_same, ixN_zero (by rw [List.length_append]; show 0 < _ + 1; omega), ?_⟩
  rw [upd_upd]
  have b9 : But ch H8 (upd H8 ch (.lst ((ws.map V.str ++ [V.str "more"]).set 0 (.str "spoilt")))) := but_upd
  have nch : ∀ {x : Addr} {o : HO}, H6 x = some o → x ≠ ch := fun e => ne_of_none e fch
  have keep : ∀ {x : Addr} {o : HO}, H6 x = some o → upd H8 ch (.lst ((ws.map V.str ++ [V.str "more"]).set 0 (.str "spoilt"))) x = some o := fun e => b9 _ _ (nch e) (s68 _ _ e)
  have e9 := keep e6
  have pl9 := keep pl6
  have P9 : Pool (upd H8 ch (.lst ((ws.map V.str ++ [V.str "more"]).set 0 (.str "spoilt")))) p c 0 := by
    obtain ⟨a1, a2, a3, a4, a5, g1, g2, g3, g4⟩ := P6
    exact ⟨a1, a2, a3, a4, a5, keep g1, keep g2, g3, g4⟩
  have C9 : CuS T.C_Cursor (upd H8 ch (.lst ((ws.map V.str ++ [V.str "more"]).set 0 (.str "spoilt")))) cu wl ws 0 := by
    obtain ⟨a1, a2, a3, g1, g2⟩ := hC
    exact ⟨a1, a2, a3, keep g1, keep g2⟩
  have O9 : CuS T.C_Cursor (upd H8 ch (.lst ((ws.map V.str ++ [V.str "more"]).set 0 (.str "spoilt")))) ot wl2 ws 0 := by
    obtain ⟨a1, a2, a3, g1, g2⟩ := hO
    exact ⟨a1, a2, a3, b9 _ _ noc.symm g1, b9 _ _ nwc.symm g2⟩
  revert e9 pl9 P9 C9 O9
  generalize upd H8 ch (.lst ((ws.map V.str ++ [V.str "more"]).set 0 (.str "spoilt"))) = H9
  intro e9 pl9 P9 C9 O9
  clear keep nch b9 P6 pl6 e6 hO hC ech noc nwc s68 s46 s5 s6 s7 s8 fpl fcu fwl fch fot fwl2 P4 b4 e4
  refine ⟨fun σ' H' => σ' = [some (.ref s0), some (.ref p), some (.int sz), some (.ref W), some (.ref pl), some (.ref cu), some (.ref ch), some (.ref ot), some (hereV ws 0), none, none, none, none, none, none, none] ∧ H' = H9, ?_, ?_⟩
  · refine ⟨_, rfl, W, _, rfl, .inl (SqL.of e9), _, _, rfl, rfl, _, rfl, ite2 (fun c1 => ?_) (fun c1 => ?_)⟩
    · have c1' : (0 : Int) < (((ws.map V.str).length : Nat) : Int) := of_decide_eq_true c1
      rw [List.length_map] at c1'
      have e0 : ws[0]? = some ws[0] := List.getElem?_eq_getElem (by omega)
      rw [here_of e0]
      exact ⟨_, rfl, W, _, 0, _, rfl, rfl, SqL.of e9, at_ofG (j := 0) rfl (by rw [List.getElem?_map, e0]; rfl), ⟨rfl, rfl⟩⟩
    · have c1' : ¬ (0 : Int) < (((ws.map V.str).length : Nat) : Int) := fun z => c1 (decide_eq_true z)
      rw [List.length_map] at c1'
      have e0 : hereV ws 0 = .non := by unfold hereV; rw [List.getElem?_eq_none (by omega)]
      rw [e0]
      exact ⟨rfl, rfl⟩
  rintro σ9 H9' ⟨rfl, rfl⟩
  obtain ⟨dxo, o1, o2, ho, ho2⟩ := id O9
  refine ⟨_, rfl, ot, dxo, _, rfl, ho, ot, wl2, ws, 0, rfl, O9, _, rfl, _, _, hereD ws 0, rfl, here_da, here_da, here_ok.1, here_ok.2, true, rfl, iteF ?_⟩
  clear O9 ho ho2
  refine ⟨40, rfl, by decide, by decide, for_range (fun i σ' H' => ∃ (at_ : Nat) (y10 y11 y12 y13 y14 y15 : Option V), σ' = [some (.ref s0), some (.ref p), some (.int sz), some (.ref W), some (.ref pl), some (.ref cu), some (.ref ch), some (.ref ot), some (hereV ws 0), some (.int (at_ : Nat)), y10, y11, y12, y13, y14, y15] ∧ at_ ≤ i ∧ H' W = some (.lst (ws.map V.str)) ∧ H' pl = some (.lst (ws.map V.str)) ∧ Pool H' p c 0 ∧ CuS T.C_Cursor H' cu wl ws at_) ⟨0, _, _, _, _, _, _, rfl, Nat.le_refl _, e9, pl9, P9, C9⟩ ?_ ?_⟩
  rotate_left
  · rintro σ' H' ⟨at_, y10, y11, y12, y13, y14, y15, rfl, la, eW, epl, PP, CC⟩
    obtain ⟨dxc, c1, c2, hc, hc2⟩ := id CC
    have lay := strs_lay (ns := ws) (fun x m => (hw x m).1) (by omega)
    refine ⟨_, rfl, cu, T.C_Cursor, dxc, _, _, rfl, hc, T.cl_Cursor, T.n_Cursor_at, lk_ix cuNd 4 rfl, _, rfl, _, _, .int (at_ : Nat), rfl, .int _, .int _, by simp [PyData.depth], by simp [wide], true, rfl, ?_⟩
    refine ⟨_, rfl, _, rfl, .list (ws.map PyData.str), .list (ws.map PyData.str), .lst (SqL.of epl) (dp_strs ws), .lst (SqL.of eW) (dp_strs ws), lay.shaped (by omega), lay.shaped (by omega), ?_⟩
    show Q (.bl (PyData.eqv (.list (ws.map PyData.str)) (.list (ws.map PyData.str)))) _
    rw [lay.refl]
    exact q _
  rintro i σ1 H10 hi ⟨at_, y10, y11, y12, y13, y14, y15, rfl, la, eW, epl, PP, CC⟩
  refine ⟨fun σ' H' => σ' = [some (.ref s0), some (.ref p), some (.int sz), some (.ref W), some (.ref pl), some (.ref cu), some (.ref ch), some (.ref ot), some (hereV ws 0), some (.int (at_ : Nat)), some (.int (0 + (i : Int))), some (hereV ws at_), y12, y13, y14, y15] ∧ H' = H10, ?_, ?_⟩
  · refine ⟨_, rfl, _, rfl, W, _, rfl, .inl (SqL.of eW), _, _, rfl, rfl, _, rfl, ite2 (fun c1 => ?_) (fun c1 => ?_)⟩
    · have c1' : (at_ : Int) < (((ws.map V.str).length : Nat) : Int) := of_decide_eq_true c1
      rw [List.length_map] at c1'
      have hl : at_ < ws.length := by omega
      have e0 : ws[at_]? = some ws[at_] := List.getElem?_eq_getElem hl
      rw [here_of e0]
      exact ⟨_, rfl, _, rfl, W, _, _, _, rfl, rfl, SqL.of eW, at_ofG (j := at_) rfl (by rw [List.getElem?_map, e0]; rfl), ⟨rfl, rfl⟩⟩
    · have c1' : ¬ (at_ : Int) < (((ws.map V.str).length : Nat) : Int) := fun z => c1 (decide_eq_true z)
      rw [List.length_map] at c1'
      have e0 : hereV ws at_ = .non := by unfold hereV; rw [List.getElem?_eq_none (by omega)]
      rw [e0]
      exact ⟨rfl, rfl⟩
  rintro σ2 H11 ⟨rfl, rfl⟩
  obtain ⟨dxc, c1, c2, hc, hc2⟩ := id CC
  refine ⟨_, rfl, cu, dxc, _, rfl, hc, cu, wl, ws, at_, rfl, CC, _, rfl, _, _, hereD ws at_, rfl, here_da, here_da, here_ok.1, here_ok.2, true, rfl, iteF ?_⟩
  refine ⟨_, rfl, cu, T.C_Cursor, dxc, _, _, rfl, hc, T.cl_Cursor, T.n_Cursor_at, lk_ix cuNd 4 rfl, _, rfl, _, _, .int (at_ : Nat), rfl, .int _, .int _, by simp [PyData.depth], by simp [wide], true, rfl, iteF ?_⟩
  refine ⟨_, rfl, _, rfl, p, c, 0, hereV ws at_, rfl, PP, here_cases hw, fun d dd H12 b12 P12 hD => ?_⟩
  have eW12 := b12 _ _ nW eW
  have ep12 := b12 _ _ npl epl
  have C12 : CuS T.C_Cursor H12 cu wl ws at_ := by
    obtain ⟨a1, a2, a3, g1, g2⟩ := CC
    exact ⟨a1, a2, a3, b12 _ _ ncu g1, b12 _ _ nwl g2⟩
  refine ⟨_, rfl, _, rfl, d, hereV ws at_, dd, rfl, hD, (here_cases hw).imp id (fun ⟨x, e, l, _⟩ => ⟨x, e, l⟩), ?_⟩
  refine due_both (Q := fun x H1 => gName 13 x _ H1 _) fun dv H13 s13 dR => ?_
  clear b12 eW epl PP CC hc hc2
  replace hD := hD.keep (keepT_of s13)
  replace eW12 := s13 _ _ eW12
  replace ep12 := s13 _ _ ep12
  replace C12 := C12.same s13
  replace P12 := P12.same s13
  clear s13
  refine ⟨fun σ' H' => ∃ pn, σ' = [some (.ref s0), some (.ref p), some (.int sz), some (.ref W), some (.ref pl), some (.ref cu), some (.ref ch), some (.ref ot), some (hereV ws 0), some (.int (at_ : Nat)), some (.int (0 + (i : Int))), some (hereV ws at_), some (.ref d), some dv, some (.ref pn), y15] ∧ Same H13 H' ∧ NamesAt H' pn dd, ?_, ?_⟩
  · cases dd with
  | word w =>
    have hD : H13 d = some (.tup [.str "word", .str w, .int 0]) := hD
    refine ⟨_, rfl, d, _, 1, .str w, rfl, rfl, SqT.of hD, atI_nat (j := 1) rfl, .str w, .ty "tuple", .type "str", .type "tuple", false, rfl, .ty _, .base (.str w), kit_ty (by decide +kernel), false, rfl, iteF ⟨by show 0 ≤ sizeLine; decide, fun pn fpn => ⟨pn, rfl, same_upd fpn, trivial⟩⟩⟩
  | num l m =>
    have hD : H13 d = some (.tup [.str "number", .int l, .int m]) := hD
    refine ⟨_, rfl, d, _, 1, .int l, rfl, rfl, SqT.of hD, atI_nat (j := 1) rfl, .int l, .ty "tuple", .type "int", .type "tuple", false, rfl, .ty _, .base (.int l), kit_ty (by decide +kernel), false, rfl, iteF ⟨by show 0 ≤ sizeLine; decide, fun pn fpn => ⟨pn, rfl, same_upd fpn, trivial⟩⟩⟩
  | name ns =>
    obtain ⟨ln, asc, t, hD, ht⟩ := hD
    refine ⟨_, rfl, d, _, 1, .ref t, rfl, rfl, SqT.of hD, atI_nat (j := 1) rfl, .ref t, .ty "tuple", .type "tuple", .type "tuple", true, rfl, .ty _, .base (.tup ht), kit_ty (by decide +kernel), true, rfl, iteT ⟨_, rfl, d, _, 1, .ref t, rfl, rfl, SqT.of hD, atI_nat (j := 1) rfl, t, _, rfl, .inr (SqT.of ht), fun pn fpn => ?_⟩⟩
    exact ⟨pn, rfl, same_upd fpn, upd_same⟩
  | fresh ns =>
    obtain ⟨ln, asc, t, hD, ht⟩ := hD
    refine ⟨_, rfl, d, _, 1, .ref t, rfl, rfl, SqT.of hD, atI_nat (j := 1) rfl, .ref t, .ty "tuple", .type "tuple", .type "tuple", true, rfl, .ty _, .base (.tup ht), kit_ty (by decide +kernel), true, rfl, iteT ⟨_, rfl, d, _, 1, .ref t, rfl, rfl, SqT.of hD, atI_nat (j := 1) rfl, t, _, rfl, .inr (SqT.of ht), fun pn fpn => ?_⟩⟩
    exact ⟨pn, rfl, same_upd fpn, upd_same⟩
  rintro σ14 H14 ⟨pn, rfl, s14, hN⟩
  replace hD := hD.keep (keepT_of s14)
  replace eW12 := s14 _ _ eW12
  replace ep12 := s14 _ _ ep12
  replace C12 := C12.same s14
  replace P12 := P12.same s14
  replace dR : DueR H12 H14 (hereV ws at_) dd dv := dR.imp (fun ⟨x, v, pd, g1, g2, g3, g4⟩ => ⟨x, v, pd, g1, g2, g3, s14 _ _ g4⟩) id
  clear s14
  refine ⟨_, rfl, _, rfl, _, rfl, cu, d, pn, wl, ws, at_, dd, rfl, C12, hD, hN, hw, by omega, ?_⟩
  refine done_both (Q := fun x H1 => gName 15 x _ H1 _) fun pa H15 aR => ?_
  obtain ⟨dxc, cz1, cz2, hc, hc2⟩ := id C12
  have b15 : But cu H14 H15 := by
    rcases aR with ⟨_, _, _, _, b, _⟩ | ⟨_, s, _⟩
    · exact b
    · exact but_of s
  have k15 : KeepT H14 H15 := fun z xs e => b15 _ _ (fun g => by rw [g, hc] at e; cases e) e
  have l15 : ∀ {z : Addr} {xs : List V}, H14 z = some (.lst xs) → H15 z = some (.lst xs) := fun e => b15 _ _ (fun g => by rw [g, hc] at e; cases e) e
  have hD15 := hD.keep k15
  have eW15 := l15 eW12
  have ep15 := l15 ep12
  have P15 : Pool H15 p c 0 := by
    obtain ⟨a1, a2, a3, a4, a5, g1, g2, g3, g4⟩ := P12
    exact ⟨a1, a2, a3, a4, a5, l15 g1, l15 g2, g3, g4⟩
  refine ⟨fun σ' H' => σ' = [some (.ref s0), some (.ref p), some (.int sz), some (.ref W), some (.ref pl), some (.ref cu), some (.ref ch), some (.ref ot), some (hereV ws 0), some (.int (at_ : Nat)), some (.int (0 + (i : Int))), some (hereV ws at_), some (.ref d), some dv, some (.ref pn), some (.ref pa)] ∧ Same H15 H', ?_, ?_⟩
  · clear dR aR P15 eW15 ep15 hD C12
    cases dd with
  | word w =>
    have hD : H15 d = some (.tup [.str "word", .str w, .int 0]) := hD15
    exact ⟨_, rfl, d, _, 1, .str w, rfl, rfl, SqT.of hD, atI_nat (j := 1) rfl, .str w, .ty "tuple", .type "str", .type "tuple", false, rfl, .ty _, .base (.str w), kit_ty (by decide +kernel), false, rfl, iteF ⟨rfl, Same.refl _⟩⟩
  | num l m =>
    have hD : H15 d = some (.tup [.str "number", .int l, .int m]) := hD15
    exact ⟨_, rfl, d, _, 1, .int l, rfl, rfl, SqT.of hD, atI_nat (j := 1) rfl, .int l, .ty "tuple", .type "int", .type "tuple", false, rfl, .ty _, .base (.int l), kit_ty (by decide +kernel), false, rfl, iteF ⟨rfl, Same.refl _⟩⟩
  | name ns =>
    have hN15 := l15 hN
    have hD := hD15
    obtain ⟨ln, asc, t, hD, ht⟩ := hD
    have lay := strs_lay (ns := ns) asc (by omega)
    refine ⟨_, rfl, d, _, 1, .ref t, rfl, rfl, SqT.of hD, atI_nat (j := 1) rfl, .ref t, .ty "tuple", .type "tuple", .type "tuple", true, rfl, .ty _, .base (.tup ht), kit_ty (by decide +kernel), true, rfl, iteT ⟨_, rfl, _, rfl, d, _, 1, .ref t, rfl, rfl, SqT.of hD, atI_nat (j := 1) rfl, t, _, rfl, .inr (SqT.of ht), fun l fl => ?_⟩⟩
    refine ⟨.list (ns.map PyData.str), .list (ns.map PyData.str), .lst (SqL.of ((same_upd fl) _ _ hN15)) (dp_strs ns), .lst (SqL.of upd_same) (dp_strs ns), lay.shaped (by omega), lay.shaped (by omega), _, rfl, ite2 (fun c => ?_) (fun _ => ⟨rfl, same_upd fl⟩)⟩
    rw [lay.refl] at c
    cases c
  | fresh ns =>
    have hN15 := l15 hN
    have hD := hD15
    obtain ⟨ln, asc, t, hD, ht⟩ := hD
    have lay := strs_lay (ns := ns) asc (by omega)
    refine ⟨_, rfl, d, _, 1, .ref t, rfl, rfl, SqT.of hD, atI_nat (j := 1) rfl, .ref t, .ty "tuple", .type "tuple", .type "tuple", true, rfl, .ty _, .base (.tup ht), kit_ty (by decide +kernel), true, rfl, iteT ⟨_, rfl, _, rfl, d, _, 1, .ref t, rfl, rfl, SqT.of hD, atI_nat (j := 1) rfl, t, _, rfl, .inr (SqT.of ht), fun l fl => ?_⟩⟩
    refine ⟨.list (ns.map PyData.str), .list (ns.map PyData.str), .lst (SqL.of ((same_upd fl) _ _ hN15)) (dp_strs ns), .lst (SqL.of upd_same) (dp_strs ns), lay.shaped (by omega), lay.shaped (by omega), _, rfl, ite2 (fun c => ?_) (fun _ => ⟨rfl, same_upd fl⟩)⟩
    rw [lay.refl] at c
    cases c
  rintro σ16 H16 ⟨rfl, s16⟩
  refine ⟨fun σ' H' => ∃ (pd : Addr) (at2 : Nat), σ' = [some (.ref s0), some (.ref p), some (.int sz), some (.ref W), some (.ref pl), some (.ref cu), some (.ref ch), some (.ref ot), some (hereV ws 0), some (.int (at2 : Nat)), some (.int (0 + (i : Int))), some (hereV ws at_), some (.ref d), some (.ref pd), some (.ref pn), some (.ref pa)] ∧ Same H16 H' ∧ at2 ≤ at_ + 1 ∧ CuS T.C_Cursor H' cu wl ws at2 ∧ ∃ D : PyData, Da H' (.ref pa) D ∧ Da H' (.ref pd) D ∧ D.depth < 8 ∧ wide D = true, ?_, ?_⟩
  · rcases dR with ⟨x, v, pd, g1, g2, rfl, g4⟩ | ⟨nf, rfl⟩
    · rcases aR with ⟨x', v', f1, f2, fb, fc, f5⟩ | ⟨nf, _, _⟩
      · have ex := here_some g1
        rw [f1] at ex
        cases ex
        obtain rfl := fit_uniq f2 g2
        obtain ⟨D, d1, d2, d3⟩ := fit_da (H := H16) g2
        have da : ∀ {z : Addr}, H16 z = some (.tup [.str "passed", v']) → Da H16 (.ref z) (.tuple [.str "passed", D]) := fun e => .tup e rfl fun j w dd h1 h2 => by
          match j, h1, h2 with
          | 0, h1, h2 => cases h1; cases h2; exact .str _
          | 1, h1, h2 => cases h1; cases h2; exact d1
        refine ⟨_, rfl, rfl, _, rfl, iteF ⟨_, rfl, _, _, rfl, rfl, ⟨pd, at_ + 1, rfl, Same.refl _, Nat.le_refl _, fc.same s16, _, da (s16 _ _ f5), da (s16 _ _ (k15 _ _ g4)), ?_, ?_⟩⟩⟩
        · simp only [PyData.depth, PyData.depthAll, d2]
          decide
        · show (decide (2 ≤ 1000000) && (wide (.str "passed") && (wide D && true))) = true
          rw [d3]
          rfl
      · exact absurd g2 (nf x v (here_some g1))
    · rcases aR with ⟨x', v', f1, f2, fb, fc, f5⟩ | ⟨_, s15, f5⟩
      · exact absurd f2 (nf x' v' (here_of f1))
      · refine ⟨_, rfl, rfl, _, rfl, iteT ⟨_, rfl, by show 3 ≤ sizeLine; decide, fun pd fpd => ?_⟩⟩
        have sp := same_upd (o := .tup [V.str "refused", .int (at_ : Nat), .bl true]) fpd
        have da : ∀ {z : Addr}, upd H16 pd (.tup [V.str "refused", .int (at_ : Nat), .bl true]) z = some (.tup [V.str "refused", .int (at_ : Nat), .bl true]) → Da (upd H16 pd (.tup [V.str "refused", .int (at_ : Nat), .bl true])) (.ref z) (.tuple [.str "refused", .int (at_ : Nat), .bool true]) := fun e => .tup e rfl fun j w dd h1 h2 => by
          match j, h1, h2 with
          | 0, h1, h2 => cases h1; cases h2; exact .str _
          | 1, h1, h2 => cases h1; cases h2; exact .int _
          | 2, h1, h2 => cases h1; cases h2; exact .bl _
        refine ⟨pd, at_, rfl, sp, by omega, ((C12.same s15).same s16).same sp, _, da (sp _ _ (s16 _ _ f5)), da upd_same, ?_, ?_⟩
        · simp only [PyData.depth, PyData.depthAll]
          decide
        · show (decide (3 ≤ 1000000) && (wide (.str "refused") && (wide (.int (at_ : Nat)) && (wide (.bool true) && true)))) = true
          rfl
  rintro σ17 H17 ⟨pd, at2, rfl, s17, la2, C17, D, q1, q2, q3, q4⟩
  refine ⟨_, rfl, _, rfl, _, _, D, rfl, q1, q2, q3, q4, true, rfl, iteF ?_⟩
  have sE := s16.trans s17
  exact ⟨at2, _, _, _, _, _, _, rfl, by omega, sE _ _ eW15, sE _ _ ep15, P15.same sE, C17⟩
end
/-! ### what the top has written -/
theorem all_mk {l : PySem.W.OpenLaw} [PrOk l.prog] {w : World} {K : PySem.W.Frag} {h : Heap} {mg : Str → Option Value} {fa : Addr} (X : K.In h) (G : h.Ns mainGlobals mg) (hfa : mg "law" = some (.ref fa))
    {C_Cursor : Addr}
    {C_GameError : Addr}
    {C_BadText fe_BadText ce_BadText de_BadText ne_BadText : Addr} {nm_BadText qn_BadText : Str} {bs_BadText sb_BadText : List Value} {sn_BadText : List Str} {ab_BadText : Bool} {cl_BadText : Option Bool} {dd_BadText oe_BadText ae_BadText ge_BadText he_BadText : Option Addr} {k0_BadText k1_BadText k2_BadText k3_BadText k5_BadText : Option Value} {oce_BadText kve_BadText dce_BadText pme_BadText cte_BadText cle_BadText cme_BadText : Value} {sle_BadText sme_BadText sne_BadText : Array (Option Value)} {vse_BadText : Array Value} {tfe_BadText : Tok}
    {tk_LETTERS_AND_DIGITS : Tok}
    {tk_LETTERS : Tok}
    {A_KEY_WORDS : Addr} {tr_KEY_WORDS : Nat} {tu_KEY_WORDS : Array (Option Value)} {tk_KEY_WORDS_0 tk_KEY_WORDS_1 tk_KEY_WORDS_2 tk_KEY_WORDS_3 tk_KEY_WORDS_4 tk_KEY_WORDS_5 tk_KEY_WORDS_6 tk_KEY_WORDS_7 tk_KEY_WORDS_8 tk_KEY_WORDS_9 tk_KEY_WORDS_10 tk_KEY_WORDS_11 tk_KEY_WORDS_12 tk_KEY_WORDS_13 tk_KEY_WORDS_14 tk_KEY_WORDS_15 tk_KEY_WORDS_16 tk_KEY_WORDS_17 tk_KEY_WORDS_18 tk_KEY_WORDS_19 tk_KEY_WORDS_20 tk_KEY_WORDS_21 tk_KEY_WORDS_22 tk_KEY_WORDS_23 tk_KEY_WORDS_24 tk_KEY_WORDS_25 : Tok}
    {tk_LONGEST_NAME : Tok}
    {tk_GREATEST_NUMBER : Tok}
    {tk_LONGEST_NUMBER : Tok}
    {f1 : Addr} {od1 an1 : Option Addr} {sl1 : Array (Option Value)} {oc1 dc1 pm1 cd1 ct1 : Value} {Dk1 : Addr}
    {zo1_1 : Addr} {zod1_1 : Option Addr} {zon1_1 : Nat} {zol1_1 : Array (Option Value)}
    {zo1_0 : Addr} {zod1_0 : Option Addr} {zon1_0 : Nat} {zol1_0 : Array (Option Value)}
    {f2 : Addr} {od2 an2 : Option Addr} {sl2 : Array (Option Value)} {oc2 kV2 dc2 pm2 cd2 ct2 : Value}
    {f3 : Addr} {od3 an3 : Option Addr} {sl3 : Array (Option Value)} {oc3 kV3 dc3 pm3 cd3 ct3 : Value}
    {f4 : Addr} {od4 an4 : Option Addr} {sl4 : Array (Option Value)} {oc4 kV4 dc4 pm4 cd4 ct4 : Value}
    {pp4 : Addr} {pr4 : List Value}
    {f5 : Addr} {od5 an5 : Option Addr} {sl5 : Array (Option Value)} {oc5 kV5 dc5 pm5 cd5 ct5 : Value}
    {f6 : Addr} {od6 an6 : Option Addr} {sl6 : Array (Option Value)} {oc6 kV6 dc6 pm6 cd6 ct6 : Value}
    {f7 : Addr} {od7 an7 : Option Addr} {sl7 : Array (Option Value)} {oc7 kV7 dc7 pm7 cd7 ct7 : Value}
    {f8 : Addr} {od8 an8 : Option Addr} {sl8 : Array (Option Value)} {oc8 kV8 dc8 pm8 cd8 ct8 : Value}
    {f9 : Addr} {od9 an9 : Option Addr} {sl9 : Array (Option Value)} {oc9 kV9 dc9 pm9 cd9 ct9 : Value}
    {f10 : Addr} {od10 an10 : Option Addr} {sl10 : Array (Option Value)} {oc10 kV10 dc10 pm10 cd10 ct10 : Value}
    {f11 : Addr} {od11 an11 : Option Addr} {sl11 : Array (Option Value)} {oc11 kV11 dc11 pm11 cd11 ct11 : Value}
    {f12 : Addr} {od12 an12 : Option Addr} {sl12 : Array (Option Value)} {oc12 kV12 dc12 pm12 cd12 ct12 : Value}
    {f13 : Addr} {od13 an13 : Option Addr} {sl13 : Array (Option Value)} {oc13 kV13 dc13 pm13 cd13 ct13 : Value}
    {f14 : Addr} {od14 an14 : Option Addr} {sl14 : Array (Option Value)} {oc14 kV14 dc14 pm14 cd14 ct14 : Value}
    {f15 : Addr} {od15 an15 : Option Addr} {sl15 : Array (Option Value)} {oc15 kV15 dc15 pm15 cd15 ct15 : Value}
    {f16 : Addr} {od16 an16 : Option Addr} {sl16 : Array (Option Value)} {oc16 kV16 dc16 pm16 cd16 ct16 : Value}
    {f17 : Addr} {od17 an17 : Option Addr} {sl17 : Array (Option Value)} {oc17 kV17 dc17 pm17 cd17 ct17 : Value}
    {f18 : Addr} {od18 an18 : Option Addr} {sl18 : Array (Option Value)} {oc18 kV18 dc18 pm18 cd18 ct18 : Value}
    {f19 : Addr} {od19 an19 : Option Addr} {sl19 : Array (Option Value)} {oc19 kV19 dc19 pm19 cd19 ct19 : Value}
    {f20 : Addr} {od20 an20 : Option Addr} {sl20 : Array (Option Value)} {oc20 kV20 dc20 pm20 cd20 ct20 : Value}
    {f21 : Addr} {od21 an21 : Option Addr} {sl21 : Array (Option Value)} {oc21 kV21 dc21 pm21 cd21 ct21 : Value}
    {f22 : Addr} {od22 an22 : Option Addr} {sl22 : Array (Option Value)} {oc22 kV22 dc22 pm22 cd22 ct22 : Value}
    {f23 : Addr} {od23 an23 : Option Addr} {sl23 : Array (Option Value)} {oc23 kV23 dc23 pm23 cd23 ct23 : Value}
    (ac_Cursor : PySem.W.nsIn K mainGlobals "Cursor" = some (some (.ref C_Cursor)))
    (pg_Cursor : PySem.W.plainGet K C_Cursor Str.empty = true)
    (hd_Cursor : PySem.W.hasDictIn K C_Cursor = true)
    (po_Cursor : PySem.W.plainOver K C_Cursor = true)
    (sa_Cursor : PySem.W.findIn K (.ref C_Cursor) "__setattr__" = some (some (.builtin "object.__setattr__")))
    (mkc_Cursor : PySem.W.makesIn K C_Cursor = true)
    (kpc_Cursor : PySem.W.keepIn K (.ref C_Cursor) = true)
    (na_Cursor__words : PySem.W.findIn K (.ref C_Cursor) "_words" = some none)
    (na_Cursor_options : PySem.W.findIn K (.ref C_Cursor) "options" = some none)
    (na_Cursor_variables : PySem.W.findIn K (.ref C_Cursor) "variables" = some none)
    (na_Cursor_sees : PySem.W.findIn K (.ref C_Cursor) "sees" = some none)
    (na_Cursor_at : PySem.W.findIn K (.ref C_Cursor) "at" = some none)
    (ac_GameError : PySem.W.nsIn K mainGlobals "GameError" = some (some (.ref C_GameError)))
    (re_GameError : PySem.W.subIn K (.ref C_GameError) (.type "BaseException") = some true)
    (ri_GameError : PySem.W.isClsIn K C_GameError = true)
    (ac_BadText : PySem.W.nsIn K mainGlobals "BadText" = some (some (.ref C_BadText)))
    (xl_BadText : K.lookup C_BadText = some (excClassObj nm_BadText qn_BadText C_BadText ne_BadText bs_BadText [.ref C_GameError, .type "ValueError", .type "Exception", .type "BaseException", .type "object"] true sn_BadText sb_BadText ab_BadText cl_BadText dd_BadText k0_BadText k1_BadText k2_BadText k3_BadText k5_BadText "ValueError.__new__"))
    (esa_BadText : PySem.W.findIn K (.ref C_BadText) "__setattr__" = some (some (.builtin "object.__setattr__")))
    (exc_BadText : PySem.W.subIn K (.ref C_BadText) (.type "BaseException") = some true)
    (ety_BadText : PySem.W.typeIn K (.ref C_BadText) = some (.type "type"))
    (ekp_BadText : PySem.W.keepIn K (.ref C_BadText) = true)
    (ega_BadText : PySem.W.findIn K (.ref C_BadText) "__getattribute__" = some (some (.builtin "BaseException.__getattribute__")))
    (egg_BadText : PySem.W.findIn K (.ref C_BadText) "__getattr__" = some none)
    (ehd_BadText : PySem.W.hasDictIn K C_BadText = true)
    (eno_BadText : PySem.W.findIn K (.ref C_BadText) "at" = some none)
    (ein_BadText : PySem.W.findIn K (.ref C_BadText) "__init__" = some (some (.ref fe_BadText)))
    (eit_BadText : PySem.W.typeIn K (.ref fe_BadText) = some (.type "function"))
    (eic_BadText : PySem.W.isClsIn K C_BadText = true)
    (ess_BadText : PySem.W.subIn K (.ref C_BadText) (.ref C_BadText) = some true)
    (elk_BadText : K.lookup fe_BadText = some ⟨oce_BadText, oe_BadText, .func (PySem.W.ksFn "__init__" "BadText.__init__" (defArgs s_BadText_init) (defBody s_BadText_init) (defScope s_BadText_init) .none kve_BadText dce_BadText pme_BadText ae_BadText (.ref ce_BadText) cte_BadText de_BadText), sle_BadText⟩)
    (ecd_BadText : PySem.W.codeIn K (.ref ce_BadText) "BadText.__init__" = true)
    (eco_BadText : K.lookup ce_BadText = some ⟨cle_BadText, ge_BadText, .fields vse_BadText, sme_BadText⟩)
    (evs_BadText : vse_BadText[2]? = some (.str "/claim/cut.py" tfe_BadText))
    (ecc_BadText : K.lookup de_BadText = some ⟨cme_BadText, he_BadText, .cell (some (.ref C_BadText)), sne_BadText⟩)
    (esu_BadText : PySem.W.ks_superIn K C_BadText C_BadText "__init__" = some (some (.builtin "ValueError.__init__")))
    (evb_BadText : PySem.W.subIn K (.ref C_BadText) (.type "ValueError") = some true)
    (emr_BadText : PySem.W.mroIn K C_BadText (.ref C_BadText) = some true)
    (eha_BadText : PySem.W.findIn K (.ref C_BadText) "__class__" = some (some (.builtin "object.__class__")))
    (ehm_BadText : PySem.W.mroIn K C_BadText (.type "object") = some true)
    (esr_GameError_BadText : PySem.W.subIn K (.ref C_BadText) (.ref C_GameError) = some true)
    (ert_GameError_BadText : PySem.W.typeIn K (.ref C_GameError) = some (.type "type"))
    (ehn : PySem.W.specialIn K (.builtin "object.__class__") "__get__" = some (some (.builtin "getset_descriptor.__get__")))
    (eht : PySem.W.takesIn K (.builtin "object.__class__") = some true)
    (opq : PySem.W.nsIn K cStatics "thirdparty.any" = some none)
    (z_super : PySem.W.nsIn K mainGlobals "super" = some none)
    (ac_LETTERS_AND_DIGITS : PySem.W.nsIn K mainGlobals "LETTERS_AND_DIGITS" = some (some (.str "abcdefghijklmnopqrstuvwxyz0123456789" tk_LETTERS_AND_DIGITS)))
    (ac_LETTERS : PySem.W.nsIn K mainGlobals "LETTERS" = some (some (.str "abcdefghijklmnopqrstuvwxyz" tk_LETTERS)))
    (ac_KEY_WORDS : PySem.W.nsIn K mainGlobals "KEY_WORDS" = some (some (.ref A_KEY_WORDS)))
    (lk_KEY_WORDS : K.lookup A_KEY_WORDS = some ⟨.type "tuple", none, .seq #[.str "option" tk_KEY_WORDS_0, .str "on" tk_KEY_WORDS_1, .str "off" tk_KEY_WORDS_2, .str "var" tk_KEY_WORDS_3, .str "round" tk_KEY_WORDS_4, .str "end" tk_KEY_WORDS_5, .str "set" tk_KEY_WORDS_6, .str "if" tk_KEY_WORDS_7, .str "else" tk_KEY_WORDS_8, .str "when" tk_KEY_WORDS_9, .str "draw" tk_KEY_WORDS_10, .str "first" tk_KEY_WORDS_11, .str "second" tk_KEY_WORDS_12, .str "show" tk_KEY_WORDS_13, .str "both" tk_KEY_WORDS_14, .str "pay" tk_KEY_WORDS_15, .str "take" tk_KEY_WORDS_16, .str "pick" tk_KEY_WORDS_17, .str "mod" tk_KEY_WORDS_18, .str "player" tk_KEY_WORDS_19, .str "keep" tk_KEY_WORDS_20, .str "lot" tk_KEY_WORDS_21, .str "while" tk_KEY_WORDS_22, .str "answer" tk_KEY_WORDS_23, .str "view" tk_KEY_WORDS_24, .str "long" tk_KEY_WORDS_25] tr_KEY_WORDS, tu_KEY_WORDS⟩)
    (ac_LONGEST_NAME : PySem.W.nsIn K mainGlobals "LONGEST_NAME" = some (some (.int 12 tk_LONGEST_NAME)))
    (ac_GREATEST_NUMBER : PySem.W.nsIn K mainGlobals "GREATEST_NUMBER" = some (some (.int 65535 tk_GREATEST_NUMBER)))
    (ac_LONGEST_NUMBER : PySem.W.nsIn K mainGlobals "LONGEST_NUMBER" = some (some (.int 5 tk_LONGEST_NUMBER)))
    (a1 : PySem.W.findIn K (.ref C_Cursor) "__init__" = some (some (.ref f1)))
    (i1 : PySem.W.isFn K (.ref f1) = true)
    (l1 : K.lookup f1 = some ⟨oc1, od1, .func (PySem.W.fnOf "__init__" "Cursor.__init__" (defArgs s_Cursor_init) (defBody s_Cursor_init) (defScope s_Cursor_init) .none (.ref Dk1) dc1 pm1 an1 cd1 ct1), sl1⟩)
    (c1 : PySem.W.codeIn K cd1 "Cursor.__init__" = true)
    (k1 : PySem.W.keepIn K (.ref f1) = true)
    (nk1_2 : PySem.W.nsIn K Dk1 "sees" = some (some (.bool false)))
    (nk1_1 : PySem.W.nsIn K Dk1 "variables" = some (some (.ref zo1_1)))
    (zk1_1 : K.lookup zo1_1 = some ⟨.type "tuple", zod1_1, .seq #[] zon1_1, zol1_1⟩)
    (nk1_0 : PySem.W.nsIn K Dk1 "options" = some (some (.ref zo1_0)))
    (zk1_0 : K.lookup zo1_0 = some ⟨.type "tuple", zod1_0, .seq #[] zon1_0, zol1_0⟩)
    (a2 : PySem.W.nsIn K mainGlobals "is_name" = some (some (.ref f2)))
    (l2 : K.lookup f2 = some ⟨oc2, od2, .func (PySem.W.fnOf "is_name" "is_name" (defArgs s_is_name) (defBody s_is_name) (defScope s_is_name) .none kV2 dc2 pm2 an2 cd2 ct2), sl2⟩)
    (c2 : PySem.W.codeIn K cd2 "is_name" = true)
    (k2 : PySem.W.keepIn K (.ref f2) = true)
    (a3 : PySem.W.nsIn K mainGlobals "number_of" = some (some (.ref f3)))
    (l3 : K.lookup f3 = some ⟨oc3, od3, .func (PySem.W.fnOf "number_of" "number_of" (defArgs s_number_of) (defBody s_number_of) (defScope s_number_of) .none kV3 dc3 pm3 an3 cd3 ct3), sl3⟩)
    (c3 : PySem.W.codeIn K cd3 "number_of" = true)
    (k3 : PySem.W.keepIn K (.ref f3) = true)
    (a4 : PySem.W.findIn K (.ref C_Cursor) "word" = some (some (.ref pp4)))
    (pg4 : PySem.W.specialIn K (.ref pp4) "__get__" = some (some (.builtin "property.__get__")))
    (pt4 : PySem.W.takesIn K (.ref pp4) = some true)
    (pr4_ : PySem.W.recIn K pp4 "property" = some (.ref f4 :: pr4))
    (l4 : K.lookup f4 = some ⟨oc4, od4, .func (PySem.W.fnOf "word" "Cursor.word" (defArgs s_Cursor_word) (defBody s_Cursor_word) (defScope s_Cursor_word) .none kV4 dc4 pm4 an4 cd4 ct4), sl4⟩)
    (c4 : PySem.W.codeIn K cd4 "Cursor.word" = true)
    (k4 : PySem.W.keepIn K (.ref f4) = true)
    (a5 : PySem.W.findIn K (.ref C_Cursor) "_pass_if" = some (some (.ref f5)))
    (i5 : PySem.W.isFn K (.ref f5) = true)
    (l5 : K.lookup f5 = some ⟨oc5, od5, .func (PySem.W.fnOf "_pass_if" "Cursor._pass_if" (defArgs s_Cursor_pass_if) (defBody s_Cursor_pass_if) (defScope s_Cursor_pass_if) .none kV5 dc5 pm5 an5 cd5 ct5), sl5⟩)
    (c5 : PySem.W.codeIn K cd5 "Cursor._pass_if" = true)
    (k5 : PySem.W.keepIn K (.ref f5) = true)
    (a6 : PySem.W.findIn K (.ref C_Cursor) "take_word" = some (some (.ref f6)))
    (i6 : PySem.W.isFn K (.ref f6) = true)
    (l6 : K.lookup f6 = some ⟨oc6, od6, .func (PySem.W.fnOf "take_word" "Cursor.take_word" (defArgs s_Cursor_take_word) (defBody s_Cursor_take_word) (defScope s_Cursor_take_word) .none kV6 dc6 pm6 an6 cd6 ct6), sl6⟩)
    (c6 : PySem.W.codeIn K cd6 "Cursor.take_word" = true)
    (k6 : PySem.W.keepIn K (.ref f6) = true)
    (a7 : PySem.W.findIn K (.ref C_Cursor) "take_number" = some (some (.ref f7)))
    (i7 : PySem.W.isFn K (.ref f7) = true)
    (l7 : K.lookup f7 = some ⟨oc7, od7, .func (PySem.W.fnOf "take_number" "Cursor.take_number" (defArgs s_Cursor_take_number) (defBody s_Cursor_take_number) (defScope s_Cursor_take_number) .none kV7 dc7 pm7 an7 cd7 ct7), sl7⟩)
    (c7 : PySem.W.codeIn K cd7 "Cursor.take_number" = true)
    (k7 : PySem.W.keepIn K (.ref f7) = true)
    (a8 : PySem.W.findIn K (.ref C_Cursor) "take_name" = some (some (.ref f8)))
    (i8 : PySem.W.isFn K (.ref f8) = true)
    (l8 : K.lookup f8 = some ⟨oc8, od8, .func (PySem.W.fnOf "take_name" "Cursor.take_name" (defArgs s_Cursor_take_name) (defBody s_Cursor_take_name) (defScope s_Cursor_take_name) .none kV8 dc8 pm8 an8 cd8 ct8), sl8⟩)
    (c8 : PySem.W.codeIn K cd8 "Cursor.take_name" = true)
    (k8 : PySem.W.keepIn K (.ref f8) = true)
    (a9 : PySem.W.findIn K (.ref C_Cursor) "take_new_name" = some (some (.ref f9)))
    (i9 : PySem.W.isFn K (.ref f9) = true)
    (l9 : K.lookup f9 = some ⟨oc9, od9, .func (PySem.W.fnOf "take_new_name" "Cursor.take_new_name" (defArgs s_Cursor_take_new_name) (defBody s_Cursor_take_new_name) (defScope s_Cursor_take_new_name) .none kV9 dc9 pm9 an9 cd9 ct9), sl9⟩)
    (c9 : PySem.W.codeIn K cd9 "Cursor.take_new_name" = true)
    (k9 : PySem.W.keepIn K (.ref f9) = true)
    (a10 : PySem.W.nsIn K mainGlobals "_law_pool" = some (some (.ref f10)))
    (l10 : K.lookup f10 = some ⟨oc10, od10, .func (PySem.W.fnOf "_law_pool" "_law_pool" (defArgs s_law_pool) (defBody s_law_pool) (defScope s_law_pool) .none kV10 dc10 pm10 an10 cd10 ct10), sl10⟩)
    (c10 : PySem.W.codeIn K cd10 "_law_pool" = true)
    (k10 : PySem.W.keepIn K (.ref f10) = true)
    (a11 : PySem.W.nsIn K mainGlobals "_law_draw" = some (some (.ref f11)))
    (l11 : K.lookup f11 = some ⟨oc11, od11, .func (PySem.W.fnOf "_law_draw" "_law_draw" (defArgs s_law_draw) (defBody s_law_draw) (defScope s_law_draw) .none kV11 dc11 pm11 an11 cd11 ct11), sl11⟩)
    (c11 : PySem.W.codeIn K cd11 "_law_draw" = true)
    (k11 : PySem.W.keepIn K (.ref f11) = true)
    (a12 : PySem.W.nsIn K mainGlobals "_law_few" = some (some (.ref f12)))
    (l12 : K.lookup f12 = some ⟨oc12, od12, .func (PySem.W.fnOf "_law_few" "_law_few" (defArgs s_law_few) (defBody s_law_few) (defScope s_law_few) .none kV12 dc12 pm12 an12 cd12 ct12), sl12⟩)
    (c12 : PySem.W.codeIn K cd12 "_law_few" = true)
    (k12 : PySem.W.keepIn K (.ref f12) = true)
    (a13 : PySem.W.nsIn K mainGlobals "_law_number" = some (some (.ref f13)))
    (l13 : K.lookup f13 = some ⟨oc13, od13, .func (PySem.W.fnOf "_law_number" "_law_number" (defArgs s_law_number) (defBody s_law_number) (defScope s_law_number) .none kV13 dc13 pm13 an13 cd13 ct13), sl13⟩)
    (c13 : PySem.W.codeIn K cd13 "_law_number" = true)
    (k13 : PySem.W.keepIn K (.ref f13) = true)
    (a14 : PySem.W.nsIn K mainGlobals "_law_same" = some (some (.ref f14)))
    (l14 : K.lookup f14 = some ⟨oc14, od14, .func (PySem.W.fnOf "_law_same" "_law_same" (defArgs s_law_same) (defBody s_law_same) (defScope s_law_same) .none kV14 dc14 pm14 an14 cd14 ct14), sl14⟩)
    (c14 : PySem.W.codeIn K cd14 "_law_same" = true)
    (k14 : PySem.W.keepIn K (.ref f14) = true)
    (a15 : PySem.W.nsIn K mainGlobals "_law_keys" = some (some (.ref f15)))
    (l15 : K.lookup f15 = some ⟨oc15, od15, .func (PySem.W.fnOf "_law_keys" "_law_keys" (defArgs s_law_keys) (defBody s_law_keys) (defScope s_law_keys) .none kV15 dc15 pm15 an15 cd15 ct15), sl15⟩)
    (c15 : PySem.W.codeIn K cd15 "_law_keys" = true)
    (k15 : PySem.W.keepIn K (.ref f15) = true)
    (a16 : PySem.W.nsIn K mainGlobals "_law_name" = some (some (.ref f16)))
    (l16 : K.lookup f16 = some ⟨oc16, od16, .func (PySem.W.fnOf "_law_name" "_law_name" (defArgs s_law_name) (defBody s_law_name) (defScope s_law_name) .none kV16 dc16 pm16 an16 cd16 ct16), sl16⟩)
    (c16 : PySem.W.codeIn K cd16 "_law_name" = true)
    (k16 : PySem.W.keepIn K (.ref f16) = true)
    (a17 : PySem.W.nsIn K mainGlobals "_law_is_name" = some (some (.ref f17)))
    (l17 : K.lookup f17 = some ⟨oc17, od17, .func (PySem.W.fnOf "_law_is_name" "_law_is_name" (defArgs s_law_is_name) (defBody s_law_is_name) (defScope s_law_is_name) .none kV17 dc17 pm17 an17 cd17 ct17), sl17⟩)
    (c17 : PySem.W.codeIn K cd17 "_law_is_name" = true)
    (k17 : PySem.W.keepIn K (.ref f17) = true)
    (a18 : PySem.W.nsIn K mainGlobals "_law_number_of" = some (some (.ref f18)))
    (l18 : K.lookup f18 = some ⟨oc18, od18, .func (PySem.W.fnOf "_law_number_of" "_law_number_of" (defArgs s_law_number_of) (defBody s_law_number_of) (defScope s_law_number_of) .none kV18 dc18 pm18 an18 cd18 ct18), sl18⟩)
    (c18 : PySem.W.codeIn K cd18 "_law_number_of" = true)
    (k18 : PySem.W.keepIn K (.ref f18) = true)
    (a19 : PySem.W.nsIn K mainGlobals "_law_word" = some (some (.ref f19)))
    (l19 : K.lookup f19 = some ⟨oc19, od19, .func (PySem.W.fnOf "_law_word" "_law_word" (defArgs s_law_word) (defBody s_law_word) (defScope s_law_word) .none kV19 dc19 pm19 an19 cd19 ct19), sl19⟩)
    (c19 : PySem.W.codeIn K cd19 "_law_word" = true)
    (k19 : PySem.W.keepIn K (.ref f19) = true)
    (a20 : PySem.W.nsIn K mainGlobals "_law_deed" = some (some (.ref f20)))
    (l20 : K.lookup f20 = some ⟨oc20, od20, .func (PySem.W.fnOf "_law_deed" "_law_deed" (defArgs s_law_deed) (defBody s_law_deed) (defScope s_law_deed) .none kV20 dc20 pm20 an20 cd20 ct20), sl20⟩)
    (c20 : PySem.W.codeIn K cd20 "_law_deed" = true)
    (k20 : PySem.W.keepIn K (.ref f20) = true)
    (a21 : PySem.W.nsIn K mainGlobals "_law_due" = some (some (.ref f21)))
    (l21 : K.lookup f21 = some ⟨oc21, od21, .func (PySem.W.fnOf "_law_due" "_law_due" (defArgs s_law_due) (defBody s_law_due) (defScope s_law_due) .none kV21 dc21 pm21 an21 cd21 ct21), sl21⟩)
    (c21 : PySem.W.codeIn K cd21 "_law_due" = true)
    (k21 : PySem.W.keepIn K (.ref f21) = true)
    (a22 : PySem.W.nsIn K mainGlobals "_law_done" = some (some (.ref f22)))
    (l22 : K.lookup f22 = some ⟨oc22, od22, .func (PySem.W.fnOf "_law_done" "_law_done" (defArgs s_law_done) (defBody s_law_done) (defScope s_law_done) .none kV22 dc22 pm22 an22 cd22 ct22), sl22⟩)
    (c22 : PySem.W.codeIn K cd22 "_law_done" = true)
    (k22 : PySem.W.keepIn K (.ref f22) = true)
    (a23 : PySem.W.nsIn K mainGlobals "law" = some (some (.ref f23)))
    (l23 : K.lookup f23 = some ⟨oc23, od23, .func (PySem.W.fnOf "law" "law" (defArgs s_law) (defBody s_law) (defScope s_law) .none kV23 dc23 pm23 an23 cd23 ct23), sl23⟩)
    (c23 : PySem.W.codeIn K cd23 "law" = true)
    (k23 : PySem.W.keepIn K (.ref f23) = true)
    (z_all : PySem.W.nsIn K mainGlobals "all" = some none)
    (z_bool : PySem.W.nsIn K mainGlobals "bool" = some none)
    (z_int : PySem.W.nsIn K mainGlobals "int" = some none)
    (z_isinstance : PySem.W.nsIn K mainGlobals "isinstance" = some none)
    (z_len : PySem.W.nsIn K mainGlobals "len" = some none)
    (z_list : PySem.W.nsIn K mainGlobals "list" = some none)
    (z_max : PySem.W.nsIn K mainGlobals "max" = some none)
    (z_min : PySem.W.nsIn K mainGlobals "min" = some none)
    (z_ord : PySem.W.nsIn K mainGlobals "ord" = some none)
    (z_range : PySem.W.nsIn K mainGlobals "range" = some none)
    (z_str : PySem.W.nsIn K mainGlobals "str" = some none)
    (z_tuple : PySem.W.nsIn K mainGlobals "tuple" = some none) :
    ∃ fd : FuncData, (∀ (s : Shared) (v : Value), BindsTo s fd ⟨[v], []⟩ [("script", v)]) ∧ ∀ base : Heap, K.In base → base.Ns mainGlobals mg → FnOk l.prog w K mg base CX0 9 fa fd ["script"] (spLaw K) := by
  have e := hfa.symm.trans (PySem.W.mg_of X G a23)
  cases e
  have FD1 : FunD K "__init__" "Cursor.__init__" (defArgs s_Cursor_init) (defBody s_Cursor_init) (defScope s_Cursor_init) [] [("options", .ref zo1_0), ("variables", .ref zo1_1), ("sees", .bl false)] f1 _ := ⟨⟨_, _, _, _, _, _, _, _, _, _, rfl, l1, c1, .inl ⟨rfl, rfl⟩, .inr ⟨_, rfl, (List.forall_mem_cons.mpr ⟨⟨_, nk1_0, (by first | exact ⟨_, rfl⟩ | rfl)⟩, (List.forall_mem_cons.mpr ⟨⟨_, nk1_1, (by first | exact ⟨_, rfl⟩ | rfl)⟩, (List.forall_mem_cons.mpr ⟨⟨_, nk1_2, (by first | exact ⟨_, rfl⟩ | rfl)⟩, (List.forall_mem_nil _)⟩)⟩)⟩)⟩⟩, k1⟩
  obtain ⟨ds1, vd1, bd1⟩ := FD1.binds0 (ps := ["self", "words", "options", "variables", "sees"]) 2 (by simp) rfl (fun D doc pm an cdv ct us ks h1 h2 => match us, ks, h1, h2 with | [_, _], [_, _, _], _, _ => ⟨_, _, _, _, _, _, rfl, rfl, _, _, _, _, _, _, rfl, rfl, _, _, _, _, _, _, rfl, rfl, rfl⟩)
  let T : Txt K mg := { C_Cursor := C_Cursor, m_Cursor := PySem.W.mg_of X G ac_Cursor, cl_Cursor := ⟨pg_Cursor, hd_Cursor, po_Cursor, sa_Cursor⟩, n_Cursor__words := na_Cursor__words, n_Cursor_options := na_Cursor_options, n_Cursor_variables := na_Cursor_variables, n_Cursor_sees := na_Cursor_sees, n_Cursor_at := na_Cursor_at, C_GameError := C_GameError, m_GameError := PySem.W.mg_of X G ac_GameError, C_BadText := C_BadText, a_BadText_init := fe_BadText, d_BadText_init := _, m_BadText := PySem.W.mg_of X G ac_BadText, e_BadText := ⟨⟨⟨_, _, _, _, _, _, _, _, _, _, _, _, _, _, _, xl_BadText, rfl⟩, esa_BadText, exc_BadText, ety_BadText, ekp_BadText⟩, ⟨ega_BadText, egg_BadText, exc_BadText, ehd_BadText⟩, eno_BadText, ein_BadText, eit_BadText, ⟨_, _, _, _, _, _, _, _, _, _, _, _, _, _, _, _, _, _, rfl, elk_BadText, ecd_BadText, eco_BadText, evs_BadText, ecc_BadText, esu_BadText, evb_BadText, emr_BadText, opq⟩⟩, b_BadText_init := .all (fun us hl => match us, hl with | [_, _], _ => rfl), t_BadText := exm_self exc_BadText eic_BadText ety_BadText ess_BadText, i_BadText := ⟨eha_BadText, ehn, eht, ehm_BadText⟩, kv_BadText := kit_val evb_BadText, kk_BadText_BadText := kit_own ess_BadText eic_BadText ety_BadText ess_BadText, t_BadText_GameError := exm_sup re_GameError ri_GameError ert_GameError_BadText esr_GameError_BadText, kk_BadText_GameError := kit_own esr_GameError_BadText ri_GameError ert_GameError_BadText ess_BadText, z_super := PySem.W.mg_none_of X G z_super, v_LETTERS_AND_DIGITS := _, g_LETTERS_AND_DIGITS := PySem.W.mg_of X G ac_LETTERS_AND_DIGITS, r_LETTERS_AND_DIGITS := ⟨_, rfl⟩, v_LETTERS := _, g_LETTERS := PySem.W.mg_of X G ac_LETTERS, r_LETTERS := ⟨_, rfl⟩, A_KEY_WORDS := A_KEY_WORDS, g_KEY_WORDS := PySem.W.mg_of X G ac_KEY_WORDS, q_KEY_WORDS := fun H => .inr ⟨_, _, _, lk_KEY_WORDS, rfl, rfl, by show 26 ≤ sizeLine; decide, (.cons (by first | exact ⟨_, rfl⟩ | rfl) (.cons (by first | exact ⟨_, rfl⟩ | rfl) (.cons (by first | exact ⟨_, rfl⟩ | rfl) (.cons (by first | exact ⟨_, rfl⟩ | rfl) (.cons (by first | exact ⟨_, rfl⟩ | rfl) (.cons (by first | exact ⟨_, rfl⟩ | rfl) (.cons (by first | exact ⟨_, rfl⟩ | rfl) (.cons (by first | exact ⟨_, rfl⟩ | rfl) (.cons (by first | exact ⟨_, rfl⟩ | rfl) (.cons (by first | exact ⟨_, rfl⟩ | rfl) (.cons (by first | exact ⟨_, rfl⟩ | rfl) (.cons (by first | exact ⟨_, rfl⟩ | rfl) (.cons (by first | exact ⟨_, rfl⟩ | rfl) (.cons (by first | exact ⟨_, rfl⟩ | rfl) (.cons (by first | exact ⟨_, rfl⟩ | rfl) (.cons (by first | exact ⟨_, rfl⟩ | rfl) (.cons (by first | exact ⟨_, rfl⟩ | rfl) (.cons (by first | exact ⟨_, rfl⟩ | rfl) (.cons (by first | exact ⟨_, rfl⟩ | rfl) (.cons (by first | exact ⟨_, rfl⟩ | rfl) (.cons (by first | exact ⟨_, rfl⟩ | rfl) (.cons (by first | exact ⟨_, rfl⟩ | rfl) (.cons (by first | exact ⟨_, rfl⟩ | rfl) (.cons (by first | exact ⟨_, rfl⟩ | rfl) (.cons (by first | exact ⟨_, rfl⟩ | rfl) (.cons (by first | exact ⟨_, rfl⟩ | rfl) .nil))))))))))))))))))))))))))⟩, qd_KEY_WORDS := ⟨_, lk_KEY_WORDS, rfl, rfl⟩, v_LONGEST_NAME := _, g_LONGEST_NAME := PySem.W.mg_of X G ac_LONGEST_NAME, r_LONGEST_NAME := ⟨_, rfl⟩, v_GREATEST_NUMBER := _, g_GREATEST_NUMBER := PySem.W.mg_of X G ac_GREATEST_NUMBER, r_GREATEST_NUMBER := ⟨_, rfl⟩, v_LONGEST_NUMBER := _, g_LONGEST_NUMBER := PySem.W.mg_of X G ac_LONGEST_NUMBER, r_LONGEST_NUMBER := ⟨_, rfl⟩, zk_Cursor_init_1 := zo1_1, qzk_Cursor_init_1 := fun H => .inr ⟨_, _, _, zk1_1, rfl, rfl, by show 0 ≤ sizeLine; decide, .nil⟩, zk_Cursor_init_0 := zo1_0, qzk_Cursor_init_0 := fun H => .inr ⟨_, _, _, zk1_0, rfl, rfl, by show 0 ≤ sizeLine; decide, .nil⟩, a_Cursor_init := f1, d_Cursor_init := _, F_Cursor_init := FD1, ds_Cursor_init := ds1, v_Cursor_init := vd1, bd_Cursor_init := bd1, mk_Cursor := ⟨mkc_Cursor, a1, i1, kpc_Cursor⟩, a_is_name := f2, d_is_name := _, F_is_name := fun_mk (st := s_is_name) l2 c2 k2, b_is_name := (fun_mk (st := s_is_name) l2 c2 k2).binds (ps := ["word"]) (fun _ _ _ _ _ _ us hl => match us, hl with | [_], _ => rfl), m_is_name := PySem.W.mg_of X G a2, a_number_of := f3, d_number_of := _, F_number_of := fun_mk (st := s_number_of) l3 c3 k3, b_number_of := (fun_mk (st := s_number_of) l3 c3 k3).binds (ps := ["word"]) (fun _ _ _ _ _ _ us hl => match us, hl with | [_], _ => rfl), m_number_of := PySem.W.mg_of X G a3, a_Cursor_word := f4, d_Cursor_word := _, F_Cursor_word := fun_mk (st := s_Cursor_word) l4 c4 k4, b_Cursor_word := (fun_mk (st := s_Cursor_word) l4 c4 k4).binds (ps := ["self"]) (fun _ _ _ _ _ _ us hl => match us, hl with | [_], _ => rfl), p_Cursor_word := pp4, pr_Cursor_word := ⟨a4, pg4, pt4, ⟨_, pr4_⟩⟩, a_Cursor_pass_if := f5, d_Cursor_pass_if := _, F_Cursor_pass_if := fun_mk (st := s_Cursor_pass_if) l5 c5 k5, b_Cursor_pass_if := (fun_mk (st := s_Cursor_pass_if) l5 c5 k5).binds (ps := ["self", "fits"]) (fun _ _ _ _ _ _ us hl => match us, hl with | [_, _], _ => rfl), me_Cursor_pass_if := ⟨a5, i5, k5⟩, a_Cursor_take_word := f6, d_Cursor_take_word := _, F_Cursor_take_word := fun_mk (st := s_Cursor_take_word) l6 c6 k6, b_Cursor_take_word := (fun_mk (st := s_Cursor_take_word) l6 c6 k6).binds (ps := ["self", "word"]) (fun _ _ _ _ _ _ us hl => match us, hl with | [_, _], _ => rfl), me_Cursor_take_word := ⟨a6, i6, k6⟩, a_Cursor_take_number := f7, d_Cursor_take_number := _, F_Cursor_take_number := fun_mk (st := s_Cursor_take_number) l7 c7 k7, b_Cursor_take_number := (fun_mk (st := s_Cursor_take_number) l7 c7 k7).binds (ps := ["self", "least", "most"]) (fun _ _ _ _ _ _ us hl => match us, hl with | [_, _, _], _ => rfl), me_Cursor_take_number := ⟨a7, i7, k7⟩, a_Cursor_take_name := f8, d_Cursor_take_name := _, F_Cursor_take_name := fun_mk (st := s_Cursor_take_name) l8 c8 k8, b_Cursor_take_name := (fun_mk (st := s_Cursor_take_name) l8 c8 k8).binds (ps := ["self", "names"]) (fun _ _ _ _ _ _ us hl => match us, hl with | [_, _], _ => rfl), me_Cursor_take_name := ⟨a8, i8, k8⟩, a_Cursor_take_new_name := f9, d_Cursor_take_new_name := _, F_Cursor_take_new_name := fun_mk (st := s_Cursor_take_new_name) l9 c9 k9, b_Cursor_take_new_name := (fun_mk (st := s_Cursor_take_new_name) l9 c9 k9).binds (ps := ["self", "names"]) (fun _ _ _ _ _ _ us hl => match us, hl with | [_, _], _ => rfl), me_Cursor_take_new_name := ⟨a9, i9, k9⟩, a_law_pool := f10, d_law_pool := _, F_law_pool := fun_mk (st := s_law_pool) l10 c10 k10, b_law_pool := (fun_mk (st := s_law_pool) l10 c10 k10).binds (ps := ["script", "budget"]) (fun _ _ _ _ _ _ us hl => match us, hl with | [_, _], _ => rfl), m_law_pool := PySem.W.mg_of X G a10, a_law_draw := f11, d_law_draw := _, F_law_draw := fun_mk (st := s_law_draw) l11 c11 k11, b_law_draw := (fun_mk (st := s_law_draw) l11 c11 k11).binds (ps := ["pool", "size"]) (fun _ _ _ _ _ _ us hl => match us, hl with | [_, _], _ => rfl), m_law_draw := PySem.W.mg_of X G a11, a_law_few := f12, d_law_few := _, F_law_few := fun_mk (st := s_law_few) l12 c12 k12, b_law_few := (fun_mk (st := s_law_few) l12 c12 k12).binds (ps := ["pool", "most"]) (fun _ _ _ _ _ _ us hl => match us, hl with | [_, _], _ => rfl), m_law_few := PySem.W.mg_of X G a12, a_law_number := f13, d_law_number := _, F_law_number := fun_mk (st := s_law_number) l13 c13 k13, b_law_number := (fun_mk (st := s_law_number) l13 c13 k13).binds (ps := ["pool"]) (fun _ _ _ _ _ _ us hl => match us, hl with | [_], _ => rfl), m_law_number := PySem.W.mg_of X G a13, a_law_same := f14, d_law_same := _, F_law_same := fun_mk (st := s_law_same) l14 c14 k14, b_law_same := (fun_mk (st := s_law_same) l14 c14 k14).binds (ps := ["actual", "due"]) (fun _ _ _ _ _ _ us hl => match us, hl with | [_, _], _ => rfl), m_law_same := PySem.W.mg_of X G a14, a_law_keys := f15, d_law_keys := _, F_law_keys := fun_mk (st := s_law_keys) l15 c15 k15, b_law_keys := (fun_mk (st := s_law_keys) l15 c15 k15).binds (ps := []) (fun _ _ _ _ _ _ us hl => match us, hl with | [], _ => rfl), m_law_keys := PySem.W.mg_of X G a15, a_law_name := f16, d_law_name := _, F_law_name := fun_mk (st := s_law_name) l16 c16 k16, b_law_name := (fun_mk (st := s_law_name) l16 c16 k16).binds (ps := ["pool", "taken"]) (fun _ _ _ _ _ _ us hl => match us, hl with | [_, _], _ => rfl), m_law_name := PySem.W.mg_of X G a16, a_law_is_name := f17, d_law_is_name := _, F_law_is_name := fun_mk (st := s_law_is_name) l17 c17 k17, b_law_is_name := (fun_mk (st := s_law_is_name) l17 c17 k17).binds (ps := ["word"]) (fun _ _ _ _ _ _ us hl => match us, hl with | [_], _ => rfl), m_law_is_name := PySem.W.mg_of X G a17, a_law_number_of := f18, d_law_number_of := _, F_law_number_of := fun_mk (st := s_law_number_of) l18 c18 k18, b_law_number_of := (fun_mk (st := s_law_number_of) l18 c18 k18).binds (ps := ["word"]) (fun _ _ _ _ _ _ us hl => match us, hl with | [_], _ => rfl), m_law_number_of := PySem.W.mg_of X G a18, a_law_word := f19, d_law_word := _, F_law_word := fun_mk (st := s_law_word) l19 c19 k19, b_law_word := (fun_mk (st := s_law_word) l19 c19 k19).binds (ps := ["pool"]) (fun _ _ _ _ _ _ us hl => match us, hl with | [_], _ => rfl), m_law_word := PySem.W.mg_of X G a19, a_law_deed := f20, d_law_deed := _, F_law_deed := fun_mk (st := s_law_deed) l20 c20 k20, b_law_deed := (fun_mk (st := s_law_deed) l20 c20 k20).binds (ps := ["pool", "here"]) (fun _ _ _ _ _ _ us hl => match us, hl with | [_, _], _ => rfl), m_law_deed := PySem.W.mg_of X G a20, a_law_due := f21, d_law_due := _, F_law_due := fun_mk (st := s_law_due) l21 c21 k21, b_law_due := (fun_mk (st := s_law_due) l21 c21 k21).binds (ps := ["deed", "here"]) (fun _ _ _ _ _ _ us hl => match us, hl with | [_, _], _ => rfl), m_law_due := PySem.W.mg_of X G a21, a_law_done := f22, d_law_done := _, F_law_done := fun_mk (st := s_law_done) l22 c22 k22, b_law_done := (fun_mk (st := s_law_done) l22 c22 k22).binds (ps := ["cursor", "deed", "names"]) (fun _ _ _ _ _ _ us hl => match us, hl with | [_, _, _], _ => rfl), m_law_done := PySem.W.mg_of X G a22, a_law := fa, d_law := _, F_law := fun_mk (st := s_law) l23 c23 k23, b_law := (fun_mk (st := s_law) l23 c23 k23).binds (ps := ["script"]) (fun _ _ _ _ _ _ us hl => match us, hl with | [_], _ => rfl), m_law := PySem.W.mg_of X G a23, z_all := PySem.W.mg_none_of X G z_all, z_bool := PySem.W.mg_none_of X G z_bool, z_int := PySem.W.mg_none_of X G z_int, z_isinstance := PySem.W.mg_none_of X G z_isinstance, z_len := PySem.W.mg_none_of X G z_len, z_list := PySem.W.mg_none_of X G z_list, z_max := PySem.W.mg_none_of X G z_max, z_min := PySem.W.mg_none_of X G z_min, z_ord := PySem.W.mg_none_of X G z_ord, z_range := PySem.W.mg_none_of X G z_range, z_str := PySem.W.mg_none_of X G z_str, z_tuple := PySem.W.mg_none_of X G z_tuple }
  exact ⟨T.d_law, fun s v => .of_eq rfl, fun base _ _ => ok_law T⟩
end Own
open PySem PySem.W PyProof.Rows
set_option maxHeartbeats 0 in
theorem PySem.Challenge.cw_sureplay_k12_places_in_a_list_of_words_holds : PySem.Challenge.rw_sureplay_k12_places_in_a_list_of_words.Holds := by
  w_on; o_law; k_head; (case hw => w_witness2)
  k_fill
  refine L2.walk_of (l := PySem.Challenge.rw_sureplay_k12_places_in_a_list_of_words) (n := 63) (k := 9) (x := "script") (CX := fun _ => L2.CX0) (sp := fun w => Own.spLaw _) rfl (by decide) rfl ⟨rfl, by decide, by decide⟩ (fun w h Y => PySem.W.kIn_of Y) ?F (fun _ _ a ns hl _ hS => ⟨a, ns, rfl, hS, hl, fun _ => rfl⟩) (fun _ _ _ _ _ h => h)
  case F =>
    intro w mg fa h KX G hmg
    haveI pro : Own.PrOk PySem.Challenge.rw_sureplay_k12_places_in_a_list_of_words.prog := ⟨by decide +kernel, by decide +kernel⟩
    refine' Own.all_mk KX G hmg ?ac_Cursor ?pg_Cursor ?hd_Cursor ?po_Cursor ?sa_Cursor ?mkc_Cursor ?kpc_Cursor ?na_Cursor__words ?na_Cursor_options ?na_Cursor_variables ?na_Cursor_sees ?na_Cursor_at ?ac_GameError ?re_GameError ?ri_GameError ?ac_BadText ?xl_BadText ?esa_BadText ?exc_BadText ?ety_BadText ?ekp_BadText ?ega_BadText ?egg_BadText ?ehd_BadText ?eno_BadText ?ein_BadText ?eit_BadText ?eic_BadText ?ess_BadText ?elk_BadText ?ecd_BadText ?eco_BadText ?evs_BadText ?ecc_BadText ?esu_BadText ?evb_BadText ?emr_BadText ?eha_BadText ?ehm_BadText ?esr_GameError_BadText ?ert_GameError_BadText ?ehn ?eht ?opq ?z_super ?ac_LETTERS_AND_DIGITS ?ac_LETTERS ?ac_KEY_WORDS ?lk_KEY_WORDS ?ac_LONGEST_NAME ?ac_GREATEST_NUMBER ?ac_LONGEST_NUMBER ?a1 ?i1 ?l1 ?c1 ?k1 ?nk1_2 ?nk1_1 ?zk1_1 ?nk1_0 ?zk1_0 ?a2 ?l2 ?c2 ?k2 ?a3 ?l3 ?c3 ?k3 ?a4 ?pg4 ?pt4 ?pr4_ ?l4 ?c4 ?k4 ?a5 ?i5 ?l5 ?c5 ?k5 ?a6 ?i6 ?l6 ?c6 ?k6 ?a7 ?i7 ?l7 ?c7 ?k7 ?a8 ?i8 ?l8 ?c8 ?k8 ?a9 ?i9 ?l9 ?c9 ?k9 ?a10 ?l10 ?c10 ?k10 ?a11 ?l11 ?c11 ?k11 ?a12 ?l12 ?c12 ?k12 ?a13 ?l13 ?c13 ?k13 ?a14 ?l14 ?c14 ?k14 ?a15 ?l15 ?c15 ?k15 ?a16 ?l16 ?c16 ?k16 ?a17 ?l17 ?c17 ?k17 ?a18 ?l18 ?c18 ?k18 ?a19 ?l19 ?c19 ?k19 ?a20 ?l20 ?c20 ?k20 ?a21 ?l21 ?c21 ?k21 ?a22 ?l22 ?c22 ?k22 ?a23 ?l23 ?c23 ?k23 ?z_all ?z_bool ?z_int ?z_isinstance ?z_len ?z_list ?z_max ?z_min ?z_ord ?z_range ?z_str ?z_tuple
    (case ac_Cursor => k_is)
    (case ac_GameError => k_is)
    (case ac_BadText => k_is)
    (case ac_LETTERS_AND_DIGITS => k_is)
    (case ac_LETTERS => k_is)
    (case ac_KEY_WORDS => k_is)
    (case ac_LONGEST_NAME => k_is)
    (case ac_GREATEST_NUMBER => k_is)
    (case ac_LONGEST_NUMBER => k_is)
    (case pg_Cursor => k_is)
    (case hd_Cursor => k_is)
    (case po_Cursor => k_is)
    (case sa_Cursor => k_is)
    (case mkc_Cursor => k_is)
    (case kpc_Cursor => k_is)
    (case na_Cursor__words => k_is)
    (case na_Cursor_options => k_is)
    (case na_Cursor_variables => k_is)
    (case na_Cursor_sees => k_is)
    (case na_Cursor_at => k_is)
    (case re_GameError => k_is)
    (case ri_GameError => k_is)
    (case xl_BadText => k_is)
    (case esa_BadText => k_is)
    (case exc_BadText => k_is)
    (case ety_BadText => k_is)
    (case ekp_BadText => k_is)
    (case ega_BadText => k_is)
    (case egg_BadText => k_is)
    (case ehd_BadText => k_is)
    (case eno_BadText => k_is)
    (case ein_BadText => k_is)
    (case eit_BadText => k_is)
    (case eic_BadText => k_is)
    (case ess_BadText => first | rfl | k_is)
    (case elk_BadText => k_is)
    (case ecd_BadText => k_is)
    (case eco_BadText => k_is)
    (case evs_BadText => first | rfl | decide +kernel)
    (case ecc_BadText => k_is)
    (case esu_BadText => ks_is)
    (case evb_BadText => k_is)
    (case emr_BadText => k_is)
    (case eha_BadText => k_is)
    (case ehm_BadText => k_is)
    (case esr_GameError_BadText => first | rfl | k_is)
    (case ert_GameError_BadText => k_is)
    (case ehn => k_is)
    (case eht => k_is)
    (case opq => k_is)
    (case z_super => k_is)
    (case lk_KEY_WORDS => k_is)
    (case a1 => k_is)
    (case i1 => k_is)
    (case l1 => k_is)
    (case c1 => k_is)
    (case k1 => k_is)
    (case nk1_2 => k_is)
    (case nk1_1 => k_is)
    (case zk1_1 => k_is)
    (case nk1_0 => k_is)
    (case zk1_0 => k_is)
    (case a2 => k_is)
    (case l2 => k_is)
    (case c2 => k_is)
    (case k2 => k_is)
    (case a3 => k_is)
    (case l3 => k_is)
    (case c3 => k_is)
    (case k3 => k_is)
    (case a4 => k_is)
    (case pg4 => k_is)
    (case pt4 => k_is)
    (case pr4_ => k_is)
    (case l4 => k_is)
    (case c4 => k_is)
    (case k4 => k_is)
    (case a5 => k_is)
    (case i5 => k_is)
    (case l5 => k_is)
    (case c5 => k_is)
    (case k5 => k_is)
    (case a6 => k_is)
    (case i6 => k_is)
    (case l6 => k_is)
    (case c6 => k_is)
    (case k6 => k_is)
    (case a7 => k_is)
    (case i7 => k_is)
    (case l7 => k_is)
    (case c7 => k_is)
    (case k7 => k_is)
    (case a8 => k_is)
    (case i8 => k_is)
    (case l8 => k_is)
    (case c8 => k_is)
    (case k8 => k_is)
    (case a9 => k_is)
    (case i9 => k_is)
    (case l9 => k_is)
    (case c9 => k_is)
    (case k9 => k_is)
    (case a10 => k_is)
    (case l10 => k_is)
    (case c10 => k_is)
    (case k10 => k_is)
    (case a11 => k_is)
    (case l11 => k_is)
    (case c11 => k_is)
    (case k11 => k_is)
    (case a12 => k_is)
    (case l12 => k_is)
    (case c12 => k_is)
    (case k12 => k_is)
    (case a13 => k_is)
    (case l13 => k_is)
    (case c13 => k_is)
    (case k13 => k_is)
    (case a14 => k_is)
    (case l14 => k_is)
    (case c14 => k_is)
    (case k14 => k_is)
    (case a15 => k_is)
    (case l15 => k_is)
    (case c15 => k_is)
    (case k15 => k_is)
    (case a16 => k_is)
    (case l16 => k_is)
    (case c16 => k_is)
    (case k16 => k_is)
    (case a17 => k_is)
    (case l17 => k_is)
    (case c17 => k_is)
    (case k17 => k_is)
    (case a18 => k_is)
    (case l18 => k_is)
    (case c18 => k_is)
    (case k18 => k_is)
    (case a19 => k_is)
    (case l19 => k_is)
    (case c19 => k_is)
    (case k19 => k_is)
    (case a20 => k_is)
    (case l20 => k_is)
    (case c20 => k_is)
    (case k20 => k_is)
    (case a21 => k_is)
    (case l21 => k_is)
    (case c21 => k_is)
    (case k21 => k_is)
    (case a22 => k_is)
    (case l22 => k_is)
    (case c22 => k_is)
    (case k22 => k_is)
    (case a23 => k_is)
    (case l23 => k_is)
    (case c23 => k_is)
    (case k23 => k_is)
    (case z_all => k_is)
    (case z_bool => k_is)
    (case z_int => k_is)
    (case z_isinstance => k_is)
    (case z_len => k_is)
    (case z_list => k_is)
    (case z_max => k_is)
    (case z_min => k_is)
    (case z_ord => k_is)
    (case z_range => k_is)
    (case z_str => k_is)
    (case z_tuple => k_is)
#print axioms PySem.Challenge.cw_sureplay_k12_places_in_a_list_of_words_holds
