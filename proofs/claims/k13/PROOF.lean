import PyProof.Rows.All
import Wide.All
import OpenK.AllK
import Wide.FinOn
import HandS.TupAny
import HandS.ForMost
import HandS.IsInst
import HandS.Codes
import HandS.Walk
import HandS.Text
import HandS.StrMore
import HandS.ExcField
import HandS.Exc
import HandS.ExcOwn
import HandS.TryOnly
import HandS.WordsExc
import HandS.CallSlots
import HandS.HotCalls
import HandS.FStr
import HandS.ExcInit
import HandS.Nested
import KE.KExcSuper
import HandS.Property
import HandS.Defaults
import HandS.MakeKwOnly
import PySem.Challenge.RW_sureplay_k13_expressions_read_and_writte
set_option Elab.async false
set_option linter.all false
set_option maxRecDepth 100000
set_option maxHeartbeats 4000000
namespace Own
open PySem PySem.Spec PyProof.Rows L2
def topS (i : Nat) : Stmt := PySem.Challenge.pw_sureplay_k13_expressions_read_and_writte.main.body.getD i (.Pass ⟨0, 0, 0, 0⟩)
abbrev s_Cursor_init : Stmt := (inClass (topS 8) 0)
abbrev N_Cursor_init : List Str := ["self", "words", "options", "variables", "sees"]
theorem sc_Cursor_init : FnScope N_Cursor_init ["self", "words", "options", "variables", "sees"] (defScope s_Cursor_init) := ⟨rfl, rfl, rfl, by decide +kernel, rfl, by decide +kernel, by decide +kernel⟩
abbrev s_number_of : Stmt := (topS 7)
abbrev N_number_of : List Str := ["word", "number"]
theorem sc_number_of : FnScope N_number_of ["word"] (defScope s_number_of) := ⟨rfl, rfl, rfl, by decide +kernel, rfl, by decide +kernel, by decide +kernel⟩
abbrev s_Cursor_word : Stmt := (inClass (topS 8) 1)
abbrev N_Cursor_word : List Str := ["self"]
theorem sc_Cursor_word : FnScope N_Cursor_word ["self"] (defScope s_Cursor_word) := ⟨rfl, rfl, rfl, by decide +kernel, rfl, by decide +kernel, by decide +kernel⟩
abbrev s_Cursor_pass_if : Stmt := (inClass (topS 8) 6)
abbrev N_Cursor_pass_if : List Str := ["self", "fits"]
theorem sc_Cursor_pass_if : FnScope N_Cursor_pass_if ["self", "fits"] (defScope s_Cursor_pass_if) := ⟨rfl, rfl, rfl, by decide +kernel, rfl, by decide +kernel, by decide +kernel⟩
abbrev s_Cursor_take_word : Stmt := (inClass (topS 8) 2)
abbrev N_Cursor_take_word : List Str := ["self", "word"]
theorem sc_Cursor_take_word : FnScope N_Cursor_take_word ["self", "word"] (defScope s_Cursor_take_word) := ⟨rfl, rfl, rfl, by decide +kernel, rfl, by decide +kernel, by decide +kernel⟩
abbrev s_Cursor_take_number : Stmt := (inClass (topS 8) 3)
abbrev N_Cursor_take_number : List Str := ["self", "least", "most", "word", "number"]
theorem sc_Cursor_take_number : FnScope N_Cursor_take_number ["self", "least", "most"] (defScope s_Cursor_take_number) := ⟨rfl, rfl, rfl, by decide +kernel, rfl, by decide +kernel, by decide +kernel⟩
abbrev s_Cursor_take_name : Stmt := (inClass (topS 8) 4)
abbrev N_Cursor_take_name : List Str := ["self", "names", "word"]
theorem sc_Cursor_take_name : FnScope N_Cursor_take_name ["self", "names"] (defScope s_Cursor_take_name) := ⟨rfl, rfl, rfl, by decide +kernel, rfl, by decide +kernel, by decide +kernel⟩
abbrev s_openings : Stmt := (topS 12)
abbrev N_openings : List Str := ["cursor", "room", "words"]
theorem sc_openings : FnScope N_openings ["cursor", "room"] (defScope s_openings) := ⟨rfl, rfl, rfl, by decide +kernel, rfl, by decide +kernel, by decide +kernel⟩
abbrev s_read_parts : Stmt := (topS 13)
abbrev N_read_parts : List Str := ["cursor", "word", "room", "option", "left", "right"]
theorem sc_read_parts : FnScope N_read_parts ["cursor", "word", "room"] (defScope s_read_parts) := ⟨rfl, rfl, rfl, by decide +kernel, rfl, by decide +kernel, by decide +kernel⟩
abbrev s_read_expression : Stmt := (topS 11)
abbrev N_read_expression : List Str := ["cursor", "room", "word"]
theorem sc_read_expression : FnScope N_read_expression ["cursor", "room"] (defScope s_read_expression) := ⟨rfl, rfl, rfl, by decide +kernel, rfl, by decide +kernel, by decide +kernel⟩
abbrev s_expression_words : Stmt := (topS 14)
abbrev N_expression_words : List Str := ["expression", "kind", "words", "parts", "part"]
theorem sc_expression_words : FnScope N_expression_words ["expression"] (defScope s_expression_words) := ⟨rfl, rfl, rfl, by decide +kernel, rfl, by decide +kernel, by decide +kernel⟩
abbrev s_law_pool : Stmt := (topS 16)
abbrev N_law_pool : List Str := ["script", "budget"]
theorem sc_law_pool : FnScope N_law_pool ["script", "budget"] (defScope s_law_pool) := ⟨rfl, rfl, rfl, by decide +kernel, rfl, by decide +kernel, by decide +kernel⟩
abbrev s_law_draw : Stmt := (topS 17)
abbrev N_law_draw : List Str := ["pool", "size", "cell", "value"]
theorem sc_law_draw : FnScope N_law_draw ["pool", "size"] (defScope s_law_draw) := ⟨rfl, rfl, rfl, by decide +kernel, rfl, by decide +kernel, by decide +kernel⟩
abbrev s_law_spend : Stmt := (topS 18)
abbrev N_law_spend : List Str := ["pool"]
theorem sc_law_spend : FnScope N_law_spend ["pool"] (defScope s_law_spend) := ⟨rfl, rfl, rfl, by decide +kernel, rfl, by decide +kernel, by decide +kernel⟩
abbrev s_law_few : Stmt := (topS 19)
abbrev N_law_few : List Str := ["pool", "most", "few"]
theorem sc_law_few : FnScope N_law_few ["pool", "most"] (defScope s_law_few) := ⟨rfl, rfl, rfl, by decide +kernel, rfl, by decide +kernel, by decide +kernel⟩
abbrev s_law_number : Stmt := (topS 20)
abbrev N_law_number : List Str := ["pool"]
theorem sc_law_number : FnScope N_law_number ["pool"] (defScope s_law_number) := ⟨rfl, rfl, rfl, by decide +kernel, rfl, by decide +kernel, by decide +kernel⟩
abbrev s_law_same : Stmt := (topS 21)
abbrev N_law_same : List Str := ["actual", "due", "k"]
theorem sc_law_same : FnScope N_law_same ["actual", "due"] (defScope s_law_same) := ⟨rfl, rfl, rfl, by decide +kernel, rfl, by decide +kernel, by decide +kernel⟩
abbrev s_law_keys : Stmt := (topS 22)
abbrev N_law_keys : List Str := ["text"]
theorem sc_law_keys : FnScope N_law_keys [] (defScope s_law_keys) := ⟨rfl, rfl, rfl, by decide +kernel, rfl, by decide +kernel, by decide +kernel⟩
abbrev s_law_name : Stmt := (topS 23)
abbrev N_law_name : List Str := ["pool", "taken", "signs", "name", "k"]
theorem sc_law_name : FnScope N_law_name ["pool", "taken"] (defScope s_law_name) := ⟨rfl, rfl, rfl, by decide +kernel, rfl, by decide +kernel, by decide +kernel⟩
abbrev s_law_names : Stmt := (topS 24)
abbrev N_law_names : List Str := ["pool", "most", "names", "k"]
theorem sc_law_names : FnScope N_law_names ["pool", "most"] (defScope s_law_names) := ⟨rfl, rfl, rfl, by decide +kernel, rfl, by decide +kernel, by decide +kernel⟩
abbrev s_law_expression : Stmt := (topS 25)
abbrev N_law_expression : List Str := ["pool", "names", "picks", "brain", "deep", "kind", "pick", "left", "sign"]
theorem sc_law_expression : FnScope N_law_expression ["pool", "names", "picks", "brain", "deep"] (defScope s_law_expression) := ⟨rfl, rfl, rfl, by decide +kernel, rfl, by decide +kernel, by decide +kernel⟩
abbrev s_law_rows : Stmt := (topS 26)
abbrev N_law_rows : List Str := ["due", "level"]
theorem sc_law_rows : FnScope N_law_rows ["due", "level"] (defScope s_law_rows) := ⟨rfl, rfl, rfl, by decide +kernel, rfl, by decide +kernel, by decide +kernel⟩
abbrev s_law_read : Stmt := (topS 27)
abbrev N_law_read : List Str := ["cursor", "bound", "e"]
theorem sc_law_read : FnScope N_law_read ["cursor", "bound"] (defScope s_law_read) := ⟨rfl, rfl, rfl, by decide +kernel, rfl, by decide +kernel, by decide +kernel⟩
abbrev s_law_stranger : Stmt := (topS 28)
abbrev N_law_stranger : List Str := ["known", "passed", "more", "k", "cursor", "other", "row"]
theorem sc_law_stranger : FnScope N_law_stranger ["known", "passed"] (defScope s_law_stranger) := ⟨rfl, rfl, rfl, by decide +kernel, rfl, by decide +kernel, by decide +kernel⟩
abbrev s_law : Stmt := (topS 29)
abbrev N_law : List Str := ["script", "pool", "brain", "names", "picks", "due", "rows", "words", "before", "behind", "bound", "passed", "cursor", "word", "actual", "k", "row"]
theorem sc_law : FnScope N_law ["script"] (defScope s_law) := ⟨rfl, rfl, rfl, by decide +kernel, rfl, by decide +kernel, by decide +kernel⟩
abbrev s_BadText_init : Stmt := (inClass (topS 3) 0)
abbrev N_BadText_init : List Str := ["self", "at"]
def spLaw (K : PySem.W.Frag) : Sp := fun vs H Q _ => ∃ (a : Addr) (ns : List Int), vs = [.ref a] ∧ SqL K H a (ns.map V.int) ∧ ns.length ≤ 63 ∧ ∀ H', Q (.bl true) H'
def cell (ns : List Int) (k : Int) : Int := ns.getD k.toNat 0
theorem same_upd {H : Hp} {p : Addr} {o : HO} (h : H p = none) : Same H (upd H p o) := fun b x e => by
  rw [upd_ne (ne_of_none e h)]
  exact e
theorem cut_from (xs : List V) (k : Nat) : cutV xs (some (k : Int)) none = xs.drop k := by
  unfold cutV
  rw [HT.sIx_nat, HT.sIx_none]
  by_cases h : k ≤ xs.length
  · rw [Nat.min_eq_left h]
    exact List.take_of_length_le (by rw [List.length_drop]; omega)
  · rw [Nat.min_eq_right (by omega), List.drop_eq_nil_of_le (by omega), List.drop_eq_nil_of_le (by omega)]
    simp
theorem cut_to (xs : List V) (k : Nat) : cutV xs none (some (k : Int)) = xs.take k := by
  unfold cutV
  rw [HT.sIx_nat, HT.sIx_none, List.drop_zero, Nat.sub_zero]
  by_cases h : k ≤ xs.length
  · rw [Nat.min_eq_left h]
  · rw [Nat.min_eq_right (by omega), List.take_of_length_le (Nat.le_refl _), List.take_of_length_le (by omega)]
theorem cut_to' (xs : List V) (k : Int) (h : 0 ≤ k) : cutV xs none (some k) = xs.take k.toNat := by
  obtain ⟨m, rfl⟩ := Int.eq_ofNat_of_zero_le h
  exact cut_to xs m
theorem cut_from' (xs : List V) (k : Int) (h : 0 ≤ k) : cutV xs (some k) none = xs.drop k.toNat := by
  obtain ⟨m, rfl⟩ := Int.eq_ofNat_of_zero_le h
  exact cut_from xs m
theorem small_le {n : Nat} (h : n ≤ 1000) : n ≤ sizeLine := Nat.le_of_lt (small1000 h)
theorem at_ofG {α : Type} {xs : List α} {z : Int} {j : Nat} {v : α} (e : z = (j : Int)) (h : xs[j]? = some v) : atI xs z = some v := by
  rw [e]
  exact atI_nat h
theorem int_of_map {ns : List Int} {i : Nat} {y : V} (hi : (ns.map V.int)[i]? = some y) : ∃ z, ns[i]? = some z ∧ y = V.int z := by
  rw [List.getElem?_map] at hi
  cases e : ns[i]? with
  | none => rw [e] at hi; cases hi
  | some u => rw [e] at hi; exact ⟨u, rfl, (Option.some.inj hi).symm⟩
theorem dp_ints {K : PySem.W.Frag} {H : Hp} : ∀ ns : List Int, DpAll K H (ns.map V.int) (ns.map PyData.int)
  | [] => .nil
  | n :: r => .cons (.int n) (dp_ints r)
theorem lay_ints : ∀ ns : List Int, PyData.canLayAll0 (ns.map PyData.int) = true ∧ PyData.depthAll (ns.map PyData.int) = 0
  | [] => ⟨by simp [PyData.canLayAll0], by simp [PyData.depthAll]⟩
  | n :: r => by
    have ih := lay_ints r
    exact ⟨by simp [PyData.canLayAll0, PyData.canLay0, ih.1], by simp [PyData.depthAll, PyData.depth, ih.2]⟩
theorem shaped_ints (ns : List Int) : SeqAt.shaped (.list (ns.map PyData.int)) = true := by
  have h := lay_ints ns
  unfold SeqAt.shaped
  simp [PyData.canLay0, PyData.depth, h.1, h.2]
theorem eqv_ints (ns : List Int) : PyData.eqv (.list (ns.map PyData.int)) (.list (ns.map PyData.int)) = true :=
  SeqAt.eqv_refl _ (by rw [PyData.canLay0]; exact (lay_ints ns).1)

mutual
/-- data that never changes: scalars and tracked tuples of such -/
inductive Im (H : Hp) : V → PyData → Prop
  | non : Im H .non .none
  | bl (b : Bool) : Im H (.bl b) (.bool b)
  | int (i : Int) : Im H (.int i) (.int i)
  | str (x : Str) : Im H (.str x) (.str x)
  | tup {a : Addr} {xs : List V} {ds : List PyData} : H a = some (.tup xs) → ImAll H xs ds → Im H (.ref a) (.tuple ds)
inductive ImAll (H : Hp) : List V → List PyData → Prop
  | nil : ImAll H [] []
  | cons {v : V} {vs : List V} {d : PyData} {ds : List PyData} : Im H v d → ImAll H vs ds → ImAll H (v :: vs) (d :: ds)
end
/-- the tracked tuples stay -/
def KeepT (H H' : Hp) : Prop := ∀ b xs, H b = some (.tup xs) → H' b = some (.tup xs)
theorem KeepT.refl (H : Hp) : KeepT H H := fun _ _ h => h
theorem KeepT.trans {H H1 H2 : Hp} (a : KeepT H H1) (b : KeepT H1 H2) : KeepT H H2 := fun c x h => b c x (a c x h)
theorem keepT_of {H H' : Hp} (s : Same H H') : KeepT H H' := fun b xs h => s b _ h
theorem keepT_lst {H : Hp} {p : Addr} {xs ys : List V} (h : H p = some (.lst xs)) : KeepT H (upd H p (.lst ys)) := fun b zs e => by
  have n : b ≠ p := fun q => by rw [q, h] at e; cases e
  rw [upd_ne n]
  exact e
mutual
theorem Im.keep {H H' : Hp} (k : KeepT H H') : ∀ {v : V} {d : PyData}, Im H v d → Im H' v d
  | _, _, .non => .non
  | _, _, .bl b => .bl b
  | _, _, .int i => .int i
  | _, _, .str x => .str x
  | _, _, .tup h a => .tup (k _ _ h) (ImAll.keep k a)
theorem ImAll.keep {H H' : Hp} (k : KeepT H H') : ∀ {vs : List V} {ds : List PyData}, ImAll H vs ds → ImAll H' vs ds
  | _, _, .nil => .nil
  | _, _, .cons h a => .cons (Im.keep k h) (ImAll.keep k a)
end
mutual
theorem Im.dp {K : PySem.W.Frag} {H : Hp} : ∀ {v : V} {d : PyData}, Im H v d → Dp K H v d
  | _, _, .non => .non
  | _, _, .bl b => .bl b
  | _, _, .int i => .int i
  | _, _, .str x => .str x
  | _, _, .tup h a => .tup (SqT.of h) (ImAll.dp a)
theorem ImAll.dp {K : PySem.W.Frag} {H : Hp} : ∀ {vs : List V} {ds : List PyData}, ImAll H vs ds → DpAll K H vs ds
  | _, _, .nil => .nil
  | _, _, .cons h a => .cons (Im.dp h) (ImAll.dp a)
end
theorem ImAll.len {H : Hp} : ∀ {vs : List V} {ds : List PyData}, ImAll H vs ds → vs.length = ds.length
  | _, _, .nil => rfl
  | _, _, .cons _ a => by rw [List.length_cons, List.length_cons, ImAll.len a]
theorem ImAll.append {H : Hp} : ∀ {vs us : List V} {ds es : List PyData}, ImAll H vs ds → ImAll H us es → ImAll H (vs ++ us) (ds ++ es)
  | _, _, _, _, .nil, b => b
  | _, _, _, _, .cons h a, b => .cons h (ImAll.append a b)
theorem ImAll.get {H : Hp} : ∀ {vs : List V} {ds : List PyData} {i : Nat} {d : PyData}, ImAll H vs ds → ds[i]? = some d → ∃ v, vs[i]? = some v ∧ Im H v d
  | _, _, 0, _, .cons h _, e => by
    cases e
    exact ⟨_, rfl, h⟩
  | _, _, i + 1, _, .cons _ a, e => by
    rw [List.getElem?_cons_succ] at e
    rw [List.getElem?_cons_succ]
    exact ImAll.get a e
theorem ImAll.take {H : Hp} : ∀ {vs : List V} {ds : List PyData} (i : Nat), ImAll H vs ds → ImAll H (vs.take i) (ds.take i)
  | _, _, 0, _ => by
    rw [List.take_zero, List.take_zero]
    exact .nil
  | _, _, _ + 1, .nil => by
    rw [List.take_nil, List.take_nil]
    exact .nil
  | _, _, i + 1, .cons h a => .cons h (ImAll.take i a)
theorem ImAll.snoc {H : Hp} {vs : List V} {ds : List PyData} {v : V} {d : PyData} (a : ImAll H vs ds) (h : Im H v d) : ImAll H (vs ++ [v]) (ds ++ [d]) := a.append (.cons h .nil)
theorem ImAll.rev {H : Hp} : ∀ {vs : List V} {ds : List PyData}, ImAll H vs ds → ImAll H vs.reverse ds.reverse
  | _, _, .nil => .nil
  | _, _, .cons h a => by
    rw [List.reverse_cons, List.reverse_cons]
    exact (ImAll.rev a).snoc h
mutual
/-- all sequences are short -/
def wide : PyData → Bool
  | .list xs => decide (xs.length ≤ 1000000) && wideAll xs
  | .tuple xs => decide (xs.length ≤ 1000000) && wideAll xs
  | .none => true
  | .bool _ => true
  | .int _ => true
  | .str _ => true
  | .dict _ => false
def wideAll : List PyData → Bool
  | [] => true
  | x :: r => wide x && wideAll r
end
/-- what a comparison asks of data: sizes -/
def Lay (n : Nat) (d : PyData) : Prop := d.canLay0 = true ∧ d.depth ≤ n ∧ wide d = true
theorem lay_all : ∀ {n : Nat} {ds : List PyData}, (∀ d ∈ ds, Lay n d) → PyData.canLayAll0 ds = true ∧ PyData.depthAll ds ≤ n ∧ wideAll ds = true
  | n, [], _ => ⟨by simp [PyData.canLayAll0], by simp [PyData.depthAll], by simp [wideAll]⟩
  | n, d :: r, h => by
    have h1 := h d List.mem_cons_self
    have h2 := lay_all fun e he => h e (List.mem_cons_of_mem d he)
    refine ⟨by simp [PyData.canLayAll0, h1.1, h2.1], ?_, by simp [wideAll, h1.2.2, h2.2.2]⟩
    simp only [PyData.depthAll]
    exact Nat.max_le.mpr ⟨h1.2.1, h2.2.1⟩
theorem lay_tuple {n : Nat} {ds : List PyData} (hl : ds.length ≤ 1000000) (h : ∀ d ∈ ds, Lay n d) : Lay (n + 1) (.tuple ds) := by
  have q := lay_all h
  exact ⟨by simp [PyData.canLay0, q.1], by simp only [PyData.depth]; omega, by simp only [wide, q.2.2, decide_eq_true hl]; rfl⟩
theorem lay_list {n : Nat} {ds : List PyData} (hl : ds.length ≤ 1000000) (h : ∀ d ∈ ds, Lay n d) : Lay (n + 1) (.list ds) := by
  have q := lay_all h
  exact ⟨by simp [PyData.canLay0, q.1], by simp only [PyData.depth]; omega, by simp only [wide, q.2.2, decide_eq_true hl]; rfl⟩
theorem Lay.mono {n m : Nat} {d : PyData} (h : Lay n d) (l : n ≤ m) : Lay m d := ⟨h.1, Nat.le_trans h.2.1 l, h.2.2⟩
theorem Lay.shaped {n : Nat} {d : PyData} (h : Lay n d) (l : n ≤ 64) : SeqAt.shaped d = true := by
  unfold SeqAt.shaped
  rw [h.1, decide_eq_true (Nat.le_trans h.2.1 l)]
  rfl
theorem Lay.refl {n : Nat} {d : PyData} (h : Lay n d) : PyData.eqv d d = true := SeqAt.eqv_refl _ h.1
theorem lay_int (i : Int) : Lay 0 (.int i) := ⟨by simp [PyData.canLay0], by simp [PyData.depth], by simp [wide]⟩
theorem lay_str {x : Str} (h : PyData.strOk x = true) : Lay 0 (.str x) := ⟨by simp [PyData.canLay0, h], by simp [PyData.depth], by simp [wide]⟩
theorem lay_none : Lay 0 .none := ⟨by simp [PyData.canLay0], by simp [PyData.depth], by simp [wide]⟩
theorem lay_bool (b : Bool) : Lay 0 (.bool b) := ⟨by simp [PyData.canLay0], by simp [PyData.depth], by simp [wide]⟩
theorem wide_get {ds : List PyData} {i : Nat} {d : PyData} : wideAll ds = true → ds[i]? = some d → wide d = true := by
  induction ds generalizing i with
  | nil => intro _ h; simp at h
  | cons x r ih =>
    intro hw h
    simp only [wideAll, Bool.and_eq_true] at hw
    cases i with
    | zero => cases h; exact hw.1
    | succ i => exact ih (i := i) hw.2 (by rw [List.getElem?_cons_succ] at h; exact h)
/-- view + (event,) -/
theorem cat_ev {K : PySem.W.Frag} {H : Hp} {v t u : Addr} {xs : List V} {ds : List PyData} {e : PyData} {Q : VK} (hv : H v = some (.tup xs)) (hA : ImAll H xs ds) (he : Im H (.ref t) e) (hu : H u = some (.tup [.ref t])) (hz : xs.length ≤ 900)
    (k : ∀ (p : Addr) (H' : Hp), Same H H' → Im H' (.ref p) (.tuple (ds ++ [e])) → Q (.ref p) H') : rCatA K (.ref v) (.ref u) H Q := by
  refine ⟨v, u, xs, [.ref t], rfl, rfl, SqT.of hv, SqT.of hu, by show xs.length + 1 ≤ sizeLine; exact small_le (by omega), fun z => ?_, fun _ z => (by cases z), fun _ _ p hp => ?_⟩
  · subst z
    cases hA
    exact k u H (Same.refl H) (.tup hu (.cons he .nil))
  · exact k p _ (same_upd hp) (.tup upd_same ((hA.snoc he).keep (keepT_of (same_upd hp))))
theorem upd2_same {H : Hp} {t u : Addr} {o o' : HO} (ht : H t = none) (hu : upd H t o u = none) : Same H (upd (upd H t o) u o') := (same_upd ht).trans (same_upd hu)


/-- the drawing pool at p: the script's cells at c, five numbers -/
def Pool (H : Hp) (p c : Addr) (b : Int) : Prop := ∃ (ns : List Int) (i r s t : Int), H p = some (.lst [.ref c, .int i, .int r, .int s, .int t, .int b]) ∧ H c = some (.lst (ns.map V.int)) ∧ 0 ≤ i ∧ c ≠ p
def But (p : Addr) (H H' : Hp) : Prop := ∀ b o, b ≠ p → H b = some o → H' b = some o
theorem But.refl (p : Addr) (H : Hp) : But p H H := fun _ _ _ h => h
theorem But.trans {p : Addr} {H H1 H2 : Hp} (a : But p H H1) (b : But p H1 H2) : But p H H2 := fun c o n h => b c o n (a c o n h)
theorem but_of {p : Addr} {H H' : Hp} (s : Same H H') : But p H H' := fun b o _ h => s b o h
theorem but_upd {p : Addr} {H : Hp} {o : HO} : But p H (upd H p o) := fun b x n e => by rw [upd_ne n]; exact e
/-- what stood before the list at p was made stays -/
theorem But.same {p : Addr} {H0 H H' : Hp} (b : But p H H') (s : Same H0 H) (n : H0 p = none) : Same H0 H' := fun c o e => b c o (ne_of_none e n) (s c o e)
theorem But.keepT {p : Addr} {xs : List V} {H H' : Hp} (b : But p H H') (h : H p = some (.lst xs)) : KeepT H H' := fun c ys e => b c _ (fun z => by rw [z, h] at e; cases e) e
theorem Pool.keepT {p c : Addr} {b : Int} {H H' : Hp} (h : Pool H p c b) (k : But p H H') : KeepT H H' := by
  obtain ⟨ns, i, r, s, t, hp, _⟩ := h
  exact k.keepT hp
theorem Pool.same {p c : Addr} {b : Int} {H H' : Hp} (h : Pool H p c b) (k : Same H H') : Pool H' p c b := by
  obtain ⟨ns, i, r, s, t, hp, hc, h0, n⟩ := h
  exact ⟨ns, i, r, s, t, k _ _ hp, k _ _ hc, h0, n⟩
theorem Pool.upd {p c q : Addr} {b : Int} {H : Hp} (h : Pool H p c b) (n1 : q ≠ p) (n2 : q ≠ c) (o : HO) : Pool (L2.upd H q o) p c b := by
  obtain ⟨ns, i, r, s, t, hp, hc, h0, n⟩ := h
  exact ⟨ns, i, r, s, t, by rw [upd_ne n1.symm]; exact hp, by rw [upd_ne n2.symm]; exact hc, h0, n⟩
theorem Pool.ne2 {p c q : Addr} {b : Int} {H : Hp} (h : Pool H p c b) (e : H q = none) : q ≠ c := by
  obtain ⟨ns, i, r, s, t, hp, hc, _⟩ := h
  exact fun z => by rw [z, hc] at e; cases e
theorem Pool.ne {p c q : Addr} {b : Int} {H : Hp} (h : Pool H p c b) (e : H q = none) : q ≠ p := by
  obtain ⟨ns, i, r, s, t, hp, _⟩ := h
  exact fun z => by rw [z, hp] at e; cases e
/-- data of any make: tuples and lists that are tracked -/
inductive Da (H : Hp) : V → PyData → Prop
  | non : Da H .non .none
  | bl (b : Bool) : Da H (.bl b) (.bool b)
  | int (i : Int) : Da H (.int i) (.int i)
  | str (x : Str) : Da H (.str x) (.str x)
  | tup {a : Addr} {xs : List V} {ds : List PyData} : H a = some (.tup xs) → xs.length = ds.length → (∀ (i : Nat) v d, xs[i]? = some v → ds[i]? = some d → Da H v d) → Da H (.ref a) (.tuple ds)
  | lst {a : Addr} {xs : List V} {ds : List PyData} : H a = some (.lst xs) → xs.length = ds.length → (∀ (i : Nat) v d, xs[i]? = some v → ds[i]? = some d → Da H v d) → Da H (.ref a) (.list ds)
mutual
theorem Im.da {H : Hp} : ∀ {v : V} {d : PyData}, Im H v d → Da H v d
  | _, _, .non => .non
  | _, _, .bl b => .bl b
  | _, _, .int i => .int i
  | _, _, .str x => .str x
  | _, _, .tup h a => .tup h a.len (ImAll.da a)
theorem ImAll.da {H : Hp} : ∀ {vs : List V} {ds : List PyData}, ImAll H vs ds → ∀ (i : Nat) v d, vs[i]? = some v → ds[i]? = some d → Da H v d
  | _, _, .nil => fun i v d h _ => by simp at h
  | _, _, .cons h a => fun i v d h1 h2 => match i, h1, h2 with
    | 0, h1, h2 => by
      cases h1
      cases h2
      exact Im.da h
    | i + 1, h1, h2 => ImAll.da a i v d (by rw [List.getElem?_cons_succ] at h1; exact h1) (by rw [List.getElem?_cons_succ] at h2; exact h2)
end
theorem Da.strs {H : Hp} {a : Addr} {ys : List Str} (h : H a = some (.lst (ys.map V.str))) : Da H (.ref a) (.list (ys.map PyData.str)) := by
  refine .lst h (by rw [List.length_map, List.length_map]) fun i v d h1 h2 => ?_
  rw [List.getElem?_map] at h1 h2
  cases e : ys[i]? with
  | none => rw [e] at h1; cases h1
  | some y =>
    rw [e] at h1 h2
    cases h1
    cases h2
    exact .str y
theorem depth_get {ds : List PyData} {i : Nat} {d : PyData} : ds[i]? = some d → d.depth ≤ PyData.depthAll ds := by
  induction ds generalizing i with
  | nil => intro h; simp at h
  | cons x r ih =>
    intro h
    simp only [PyData.depthAll]
    cases i with
    | zero => cases h; exact Nat.le_max_left _ _
    | succ i => exact Nat.le_trans (ih (i := i) (by rw [List.getElem?_cons_succ] at h; exact h)) (Nat.le_max_right _ _)

/-- all signs below 128 -/
def Asc (x : Str) : Prop := ∀ c ∈ x.cps.toList, c < 128
def keyL : List Str := ["option", "on", "off", "var", "round", "end", "set", "if", "else", "when", "draw", "first", "second", "show", "both", "pay", "take", "pick", "mod", "player", "keep", "lot", "while", "answer", "view", "long"]
def keyV : List V := keyL.map V.str
theorem key_flat : keyV.all flatV = true := by decide +kernel
def loL : List Nat := List.range' 97 26
def ldL : List Nat := List.range' 97 26 ++ List.range' 48 10
def lettersS : Str := "abcdefghijklmnopqrstuvwxyz"
def ldS : Str := "abcdefghijklmnopqrstuvwxyz0123456789"
theorem letters_eq : lettersS.cps.toList = loL := by decide +kernel
theorem ld_eq : ldS.cps.toList = ldL := by decide +kernel
theorem lo_mem (c : Nat) : c ∈ loL ↔ 97 ≤ c ∧ c ≤ 122 := by
  unfold loL
  rw [List.mem_range'_1]
  omega
theorem ld_mem (c : Nat) : c ∈ ldL ↔ (97 ≤ c ∧ c ≤ 122) ∨ (48 ≤ c ∧ c ≤ 57) := by
  unfold ldL
  rw [List.mem_append, List.mem_range'_1, List.mem_range'_1]
  omega
def othersS : Str := "ABCDEFGHIJKLMNOPQRSTUVWXYZ !\"#$&'()*+,-./:;<=>?@\x5b\\]^_`{|}~\n\t"
def okAt (k c : Nat) : Prop := (97 ≤ c ∧ c ≤ 122) ∨ (0 < k ∧ 48 ≤ c ∧ c ≤ 57)
/-- a name -/
def NameP (x : Str) : Prop := 1 ≤ x.length ∧ x.length ≤ 12 ∧ inV (.str x) keyV = false ∧ ∀ k c, x.cps.toList[k]? = some c → okAt k c
/-- one sign against one sign -/
theorem lt1 (a b : Nat) : ((⟨#[a]⟩ : Str).cps.toList < (⟨#[b]⟩ : Str).cps.toList) ↔ a < b := by
  show [a] < [b] ↔ a < b
  constructor
  · intro h
    rcases List.cons_lt_cons_iff.mp h with h | ⟨_, h⟩
    · exact h
    · exact absurd h (by simp)
  · intro h
    exact List.cons_lt_cons_iff.mpr (.inl h)
/-- a number's word and what it is -/
def NumR (x : Str) (r : V) : Prop := (∃ n : Nat, n ≤ 65535 ∧ x.cps.toList = TL.numL n ∧ r = .int n) ∨ ((∀ n : Nat, n ≤ 65535 → x.cps.toList ≠ TL.numL n) ∧ r = .non)
theorem num_same {x : Str} {r q : V} (h : NumR x r) (g : NumR x q) : r = q := by
  rcases h with ⟨n, hn, e, rfl⟩ | ⟨h, rfl⟩
  · rcases g with ⟨m, hm, e2, rfl⟩ | ⟨g, rfl⟩
    · rw [TL.numL_inj (e.symm.trans e2)]
    · exact absurd e (g n hn)
  · rcases g with ⟨m, hm, e2, rfl⟩ | ⟨g, rfl⟩
    · exact absurd e2 (h m hm)
    · rfl
theorem num_da {x : Str} {r : V} {H : Hp} (h : NumR x r) : ∃ d : PyData, Da H r d ∧ d.depth < 8 ∧ wide d = true := by
  rcases h with ⟨n, hn, e, rfl⟩ | ⟨h, rfl⟩
  · exact ⟨.int n, .int _, by simp [PyData.depth], by simp [wide]⟩
  · exact ⟨.none, .non, by simp [PyData.depth], by simp [wide]⟩
theorem asc_isascii {x : Str} (h : Asc x) : Txt.isascii x = true := by
  unfold Txt.isascii
  rw [Array.all_eq_true_iff_forall_mem]
  intro c m
  exact decide_eq_true (h c (Array.mem_toList_iff.mpr m))
theorem digit128 : ∀ c, c < 128 → PySem.Unicode.isDigit c = (decide (48 ≤ c) && decide (c ≤ 57)) := by decide +kernel
theorem isdigit_iff {x : Str} (h : Asc x) : Txt.isdigit x = true ↔ (NumText.AllDigits x.cps.toList ∧ x.cps.toList ≠ []) := by
  unfold Txt.isdigit
  rw [Bool.and_eq_true, Array.all_eq_true_iff_forall_mem, decide_eq_true_eq]
  constructor
  · rintro ⟨h1, h2⟩
    refine ⟨fun c m => ?_, fun z => ?_⟩
    · have h3 := h2 c (Array.mem_toList_iff.mp m)
      rw [digit128 c (h c m), Bool.and_eq_true, decide_eq_true_eq, decide_eq_true_eq] at h3
      exact h3
    · have h4 : 0 < x.cps.toList.length := h1
      rw [z] at h4
      exact Nat.lt_irrefl 0 h4
  · rintro ⟨h1, h2⟩
    refine ⟨List.length_pos_iff.mpr h2, fun c m => ?_⟩
    have m' := Array.mem_toList_iff.mpr m
    have h3 := h1 c m'
    rw [digit128 c (h c m'), Bool.and_eq_true, decide_eq_true_eq, decide_eq_true_eq]
    exact h3
theorem str_num {x : Str} {n : Nat} (e : x.cps.toList = TL.numL n) : (Str.ofString (toString ((n : Nat) : Int))) = x := ext_toList ((TL.tl_num n).trans e.symm)
theorem num_str {x : Str} {n : Nat} (e : V.str (Str.ofString (toString ((n : Nat) : Int))) = V.str x) : x.cps.toList = TL.numL n := by
  rw [← V.str.inj e]
  exact TL.tl_num n
theorem dv_snoc (l : List Nat) (c : Nat) : NumText.digitsVal (l ++ [c]) = NumText.digitsVal l * 10 + (c - 48) := by
  unfold NumText.digitsVal
  rw [List.foldl_append]
  rfl
theorem name_iff {l : List Nat} {c0 : Nat} (h0 : l[0]? = some c0) : (c0 ∈ loL ∧ ∀ c ∈ l, c ∈ ldL) ↔ ∀ (k : Nat) c, l[k]? = some c → okAt k c := by
  constructor
  · rintro ⟨h1, h2⟩ k c e
    cases k with
    | zero =>
      rw [h0] at e
      cases e
      exact .inl ((lo_mem _).mp h1)
    | succ k =>
      rcases (ld_mem c).mp (h2 c (List.mem_of_getElem? e)) with h | h
      · exact .inl h
      · exact .inr ⟨Nat.succ_pos _, h⟩
  · intro h
    refine ⟨(lo_mem _).mpr ?_, fun c m => (ld_mem c).mpr ?_⟩
    · rcases h 0 c0 h0 with h | h
      · exact h
      · exact absurd h.1 (Nat.lt_irrefl 0)
    · obtain ⟨k, e⟩ := List.getElem?_of_mem m
      rcases h k c e with h | h
      · exact .inl h
      · exact .inr h.2
theorem all_iff {l : List Nat} {m : List Nat} : ((l.map fun c => decide (c ∈ m)).all id = true) ↔ ∀ c ∈ l, c ∈ m := by
  rw [List.all_eq_true]
  constructor
  · intro h c hc
    exact of_decide_eq_true (h _ (List.mem_map.mpr ⟨c, hc, rfl⟩))
  · intro h b hb
    obtain ⟨c, hc, rfl⟩ := List.mem_map.mp hb
    exact decide_eq_true (h c hc)
theorem step_iff {l : List Nat} {i c : Nat} (gc : l[i]? = some c) : (∀ (k : Nat) d, k < i + 1 → l[k]? = some d → okAt k d) ↔ (∀ (k : Nat) d, k < i → l[k]? = some d → okAt k d) ∧ okAt i c := by
  constructor
  · intro h
    exact ⟨fun k d hk => h k d (Nat.lt_succ_of_lt hk), h i c (Nat.lt_succ_self i) gc⟩
  · rintro ⟨h1, h2⟩ k d hk e
    rcases Nat.lt_succ_iff_lt_or_eq.mp hk with h | rfl
    · exact h1 k d h e
    · rw [gc] at e
      cases e
      exact h2
theorem pick {ss : List Str} {r : Int} (h0 : 0 ≤ r) (h1 : r < (ss.length : Int)) : ∃ w, w ∈ ss ∧ atI (ss.map V.str) r = some (.str w) := by
  have hlt : r.toNat < ss.length := by omega
  refine ⟨ss[r.toNat], List.getElem_mem hlt, at_ofG (j := r.toNat) (by omega) ?_⟩
  rw [List.getElem?_map, List.getElem?_eq_getElem hlt]
  rfl
theorem pickS {z : Str} {r : Int} (h0 : 0 ≤ r) (h1 : r < (z.length : Int)) : ∃ c, c ∈ z.cps.toList ∧ atI z.cps.toList r = some c := by
  have hz : z.length = z.cps.toList.length := rfl
  have hlt : r.toNat < z.cps.toList.length := by omega
  exact ⟨z.cps.toList[r.toNat], List.getElem_mem hlt, at_ofG (j := r.toNat) (by omega) (List.getElem?_eq_getElem hlt)⟩
def ascB (n : Nat) (ss : List Str) : Bool := ss.all fun w => decide (w.length ≤ n) && w.cps.toList.all fun c => decide (c < 128)
theorem asc_of {n : Nat} {ss : List Str} (h : ascB n ss = true) {w : Str} (m : w ∈ ss) : Asc w ∧ w.length ≤ n := by
  have h1 := List.all_eq_true.mp h w m
  rw [Bool.and_eq_true, decide_eq_true_eq] at h1
  exact ⟨fun c hc => of_decide_eq_true (List.all_eq_true.mp h1.2 c hc), h1.1⟩
theorem app_list (a b : Str) : (a ++ b).cps.toList = a.cps.toList ++ b.cps.toList := by
  show (a.cps ++ b.cps).toList = _
  simp
theorem app_len (a b : Str) : (a ++ b).length = a.length + b.length := by
  show (a ++ b).cps.toList.length = a.cps.toList.length + b.cps.toList.length
  rw [app_list, List.length_append]
theorem app_asc {a b : Str} (h : Asc a) (g : Asc b) : Asc (a ++ b) := by
  intro c m
  rw [app_list] at m
  rcases List.mem_append.mp m with m | m
  · exact h c m
  · exact g c m
theorem one_asc {c : Nat} (h : c < 128) : Asc ⟨#[c]⟩ := by
  intro d m
  have m' : d ∈ [c] := m
  rw [List.mem_singleton.mp m']
  exact h
theorem cutS_asc {z : Str} (h : Asc z) (lo hi : Option Int) : Asc (cutS z lo hi) := by
  intro c m
  have m' : c ∈ (((z.cps.toList.drop (HT.sIx z.length 0 lo)).take (HT.sIx z.length z.length hi - HT.sIx z.length 0 lo)).toArray).toList := m
  rw [List.toList_toArray] at m'
  exact h c (List.mem_of_mem_drop (List.mem_of_mem_take m'))
theorem num_asc (n : Nat) (h : n < 10 ^ 6) : Asc (Str.ofString (toString ((n : Nat) : Int))) ∧ (Str.ofString (toString ((n : Nat) : Int))).length ≤ 6 := by
  constructor
  · intro c m
    have m' : c ∈ TL.numL n := by rw [← TL.tl_num n]; exact m
    have := TL.numL_digits n c m'
    omega
  · have e : (Str.ofString (toString ((n : Nat) : Int))).cps.toList = TL.numL n := TL.tl_num n
    show (Str.ofString (toString ((n : Nat) : Int))).cps.toList.length ≤ 6
    rw [e]
    exact TL.numL_len (by decide) h
theorem log_small {n : Nat} (h : n < 10 ^ 101) : ((n : Nat) : Int).natAbs.log2 < 1920 := by
  rw [Int.natAbs_natCast]
  have : n.log2 ≤ 1919 := PySem.W.mg_log (Nat.lt_of_lt_of_le h (by decide +kernel))
  omega
theorem key_split : Txt.split (("option on off var round end set if else when draw first second show both pay take pick mod player keep lot" : Str) ++ (" while answer view long" : Str)) (" " : Str) = keyL := by decide +kernel
theorem join_signs : ∀ cs : List Nat, (Txt.join ("" : Str) (cs.map fun x => (⟨#[x]⟩ : Str))).cps.toList = cs := by
  have h : ∀ cs : List Nat, (Str.join ("" : Str) (cs.map fun x => (⟨#[x]⟩ : Str))).cps.toList = cs := by
    intro cs
    induction cs with
    | nil => rfl
    | cons a r ih =>
      cases r with
      | nil => rfl
      | cons b r =>
        show (((⟨#[a]⟩ : Str) ++ ("" : Str)) ++ Str.join ("" : Str) ((b :: r).map fun x => (⟨#[x]⟩ : Str))).cps.toList = a :: b :: r
        have e : ((((⟨#[a]⟩ : Str) ++ ("" : Str)) ++ Str.join ("" : Str) ((b :: r).map fun x => (⟨#[x]⟩ : Str))).cps.toList) = a :: (Str.join ("" : Str) ((b :: r).map fun x => (⟨#[x]⟩ : Str))).cps.toList := by
          show ((#[a] ++ ("" : Str).cps) ++ (Str.join ("" : Str) ((b :: r).map fun x => (⟨#[x]⟩ : Str))).cps).toList = _
          rw [Array.toList_append, Array.toList_append]
          rfl
        rw [e, ih]
  intro cs
  show (Builtin.Str.glued _ _).cps.toList = cs
  rw [StrLaws.glued_eq_join]
  exact h cs
theorem sum_signs (cs : List Nat) : ((cs.map fun x => (⟨#[x]⟩ : Str)).map (·.length)).sum = cs.length := by
  rw [List.map_map]
  induction cs with
  | nil => rfl
  | cons y r ih =>
    rw [List.map_cons, List.sum_cons, ih, List.length_cons]
    show 1 + r.length = r.length + 1
    omega
theorem ge1 {a b : Nat} : ((!decide ((⟨#[a]⟩ : Str).cps.toList < (⟨#[b]⟩ : Str).cps.toList)) = true) ↔ b ≤ a := by
  rw [Bool.not_eq_true', decide_eq_false_iff_not, lt1]
  omega

/-! ### names that the law draws -/
def kwL : List Str := ["option", "on", "off", "var", "round", "end", "set", "if", "else", "when", "draw", "first", "second", "show", "both", "pay", "take", "pick", "mod", "player", "keep", "lot", "while", "answer", "view", "long"]
theorem kw_split : Txt.split (("option on off var round end set if else when draw first second show both pay take pick mod player keep lot" : Str) ++ (" while answer view long" : Str)) (" " : Str) = kwL := by decide +kernel
def LetC (c : Nat) : Prop := 97 ≤ c ∧ c ≤ 122
def NmC (c : Nat) : Prop := LetC c ∨ (48 ≤ c ∧ c ≤ 57)
def NmF (x : Str) : Prop := ∃ c r, x.cps.toList = c :: r ∧ LetC c ∧ (∀ d ∈ r, NmC d) ∧ r.length ≤ 11
/-- a name -/
def Nm (x : Str) : Prop := NmF x ∧ x ∉ kwL
theorem NmF.lt {x : Str} (h : NmF x) : ∀ c ∈ x.cps.toList, c < 128 := by
  obtain ⟨c, r, e, h1, h2, _⟩ := h
  intro d m
  rw [e] at m
  rcases List.mem_cons.mp m with rfl | m
  · have := h1.2
    omega
  · rcases h2 d m with h | h
    · have := h.2
      omega
    · omega
theorem NmF.ok {x : Str} (h : NmF x) : PyData.strOk x = true := by
  unfold PyData.strOk
  rw [Array.all_eq_true_iff_forall_mem]
  intro c m
  have := h.lt c (Array.mem_toList_iff.mpr m)
  simp
  omega
theorem NmF.len {x : Str} (h : NmF x) : x.length ≤ 12 := by
  obtain ⟨c, r, e, _, _, h3⟩ := h
  show x.cps.toList.length ≤ 12
  rw [e, List.length_cons]
  omega
theorem app_cps (a b : Str) : (a ++ b).cps.toList = a.cps.toList ++ b.cps.toList := by
  show (a.cps ++ b.cps).toList = _
  simp
def vS (k : Nat) : Str := ("v" : Str) ++ Str.ofString (toString ((k : Nat) : Int))
theorem vS_cps (k : Nat) : (vS k).cps.toList = 118 :: TL.numL k := by
  unfold vS
  have e : (Str.ofString (toString ((k : Nat) : Int))).cps.toList = TL.numL k := TL.tl_num k
  rw [app_cps, e]
  rfl
theorem vS_nm {k : Nat} (h : k < 20) : Nm (vS k) := by
  refine ⟨⟨118, TL.numL k, vS_cps k, ⟨by decide, by decide⟩, fun d m => .inr (TL.numL_digits k d m), ?_⟩, ?_⟩
  · have := TL.numL_len (n := k) (k := 2) (by decide) (by omega)
    omega
  · have : (List.range 20).all (fun k => decide (vS k ∉ kwL)) = true := by decide +kernel
    exact of_decide_eq_true (List.all_eq_true.mp this k (List.mem_range.mpr h))
theorem nodup_le {α : Type} [DecidableEq α] : ∀ {l ts : List α}, l.Nodup → (∀ x ∈ l, x ∈ ts) → l.length ≤ ts.length
  | [], _, _, _ => Nat.zero_le _
  | a :: r, ts, nd, h => by
    rw [List.nodup_cons] at nd
    have ih := nodup_le (l := r) (ts := ts.erase a) nd.2 fun x m => (List.mem_erase_of_ne (fun e => nd.1 (by rw [← e]; exact m))).mpr (h x (List.mem_cons_of_mem _ m))
    have ma := h a List.mem_cons_self
    rw [List.length_erase_of_mem ma] at ih
    have : 0 < ts.length := List.length_pos_of_mem ma
    rw [List.length_cons]
    omega
theorem vS_free {ts : List Str} (h : ts.length < 20) : ¬ ∀ k, k < 20 → vS k ∈ ts := fun z => by
  have nd : ((List.range 20).map vS).Nodup := by decide +kernel
  have := nodup_le nd fun x m => by
    obtain ⟨k, mk, rfl⟩ := List.mem_map.mp m
    exact z k (List.mem_range.mp mk)
  rw [List.length_map, List.length_range] at this
  omega
def ldN : Str := "abcdefghijklmnopqrstuvwxyz0123456789"
theorem ld_let {r : Int} (h0 : 0 ≤ r) (h1 : r < 26) : ∃ c, atI ldN.cps.toList r = some c ∧ LetC c := by
  have hl : ldN.cps.toList.length = 36 := by decide +kernel
  have hlt : r.toNat < ldN.cps.toList.length := by omega
  refine ⟨ldN.cps.toList[r.toNat], at_ofG (j := r.toNat) (by omega) (List.getElem?_eq_getElem hlt), ?_⟩
  have : (List.range 26).all (fun i => decide (97 ≤ ldN.cps.toList.getD i 0 ∧ ldN.cps.toList.getD i 0 ≤ 122)) = true := by decide +kernel
  have := of_decide_eq_true (List.all_eq_true.mp this r.toNat (List.mem_range.mpr (by omega)))
  rw [List.getD_eq_getElem?_getD, List.getElem?_eq_getElem hlt] at this
  exact this
theorem ld_nm {r : Int} (h0 : 0 ≤ r) (h1 : r < 36) : ∃ c, atI ldN.cps.toList r = some c ∧ NmC c := by
  have hl : ldN.cps.toList.length = 36 := by decide +kernel
  have hlt : r.toNat < ldN.cps.toList.length := by omega
  refine ⟨ldN.cps.toList[r.toNat], at_ofG (j := r.toNat) (by omega) (List.getElem?_eq_getElem hlt), ?_⟩
  have : (List.range 36).all (fun i => decide ((97 ≤ ldN.cps.toList.getD i 0 ∧ ldN.cps.toList.getD i 0 ≤ 122) ∨ (48 ≤ ldN.cps.toList.getD i 0 ∧ ldN.cps.toList.getD i 0 ≤ 57))) = true := by decide +kernel
  have := of_decide_eq_true (List.all_eq_true.mp this r.toNat (List.mem_range.mpr (by omega)))
  rw [List.getD_eq_getElem?_getD, List.getElem?_eq_getElem hlt] at this
  exact this
theorem inV_strs {x : Str} : ∀ {l : List Str}, inV (.str x) (l.map V.str) = decide (x ∈ l)
  | [] => by simp [inV]
  | y :: r => by
    have ih := inV_strs (x := x) (l := r)
    unfold inV at ih ⊢
    rw [List.map_cons, List.any_cons, ih]
    have e : eqV (V.str y) (V.str x) = decide (x = y) := by
      show (y == x) = _
      by_cases h : x = y
      · rw [decide_eq_true h, h]
        exact beq_self_eq_true y
      · rw [decide_eq_false h]
        exact beq_eq_false_iff_ne.mpr fun z => h z.symm
    rw [e]
    by_cases h1 : x = y <;> by_cases h2 : x ∈ r <;> simp [h1, h2]
/-- the last one of v0 to v19 that is free -/
def VW (ts : List Str) (x0 : Str) (i : Nat) (x : Str) : Prop := (Nm x ∧ x ∉ ts) ∨ (x = x0 ∧ ∀ k, k < i → vS k ∈ ts)
theorem VW.next {ts : List Str} {x0 x : Str} {i : Nat} (h : VW ts x0 i x) (m : vS i ∈ ts) : VW ts x0 (i + 1) x := by
  rcases h with h | ⟨e, h⟩
  · exact .inl h
  · refine .inr ⟨e, fun k z => ?_⟩
    by_cases c : k = i
    · rw [c]
      exact m
    · exact h k (by omega)
theorem VW.fin {ts : List Str} {x0 x : Str} (h : VW ts x0 20 x) (l : ts.length < 20) : Nm x ∧ x ∉ ts := by
  rcases h with h | ⟨_, h⟩
  · exact h
  · exact absurd h (vS_free l)
theorem vS_val (i : Nat) : ("v" : Str) ++ Str.ofString (toString (0 + (i : Int))) = vS i := by
  rw [Int.zero_add]
  rfl
theorem not_in {x : Str} {l : List Str} (c : (!inV (.str x) (l.map V.str)) = true) : x ∉ l := by
  rw [inV_strs] at c
  exact fun m => by
    rw [decide_eq_true m] at c
    cases c
theorem is_in {x : Str} {l : List Str} (c : ¬ (!inV (.str x) (l.map V.str)) = true) : x ∈ l := by
  rw [inV_strs] at c
  exact Decidable.byContradiction fun m => c (by rw [decide_eq_false m]; rfl)
theorem inv_t {x : Str} {l : List Str} (c : inV (.str x) (l.map V.str) = true) : x ∈ l := by
  rw [inV_strs] at c
  exact of_decide_eq_true c
theorem inv_f {x : Str} {l : List Str} (c : ¬ inV (.str x) (l.map V.str) = true) : x ∉ l := by
  rw [inV_strs] at c
  exact fun m => c (decide_eq_true m)

section
open NdefX PySem.Calls
/-- the wrapper of ValueError.__init__ is called on an exception in the making -/
theorem mw_run {X : Cx} {pins : List (Addr × Obj)} {σ : L2.St} {H : Hp} {s : Shared} {E : Value → Shared → Prop} {u x C : Addr} {us : List Value} {Q : Value → Shared → Prop} (T : OexC X.K C) (I : Inv X pins σ H s) (e : H x = some (exo x C none))
    (hu : s.heap.get? u = some (PySem.W.kxs_mw "ValueError.__init__" x)) (hl : us.length ≤ sizeLine) (h : ∀ s', Inv X pins σ H s' → Q .none s') : wpAny (model X.prog X.w) X.A (call (.ref u) us) Q E s := by
  obtain ⟨nm, q, N, bs, bm, sn, sub, ab, col, dd, k0, k1, k2, k3, k5, hC, hbm⟩ := T.cls
  obtain ⟨t1, ho⟩ := exo_at I.hok e
  obtain ⟨hp, g, d, t, os⟩ := s
  refine wpAny_call (codeAny_of_tree ?_)
  show wpAny _ X.A.in1 (callAny (.ref u) ⟨us, []⟩) _ _ _
  simp only [callAny]
  refine wpAny_bind (wpAny_load hu ?_)
  have nz : (Value.type "method-wrapper" == Value.type "method" || Value.type "method-wrapper" == Value.type "builtin_function_or_method" || Value.type "method-wrapper" == Value.type "method-wrapper") = true := by decide
  simp only [PySem.W.kxs_mw, nz, if_true]
  refine PySem.W.KFB.if_so (by decide) ?_
  have fb := F.excBase_ValueError
  refine wpAny_bind (PySem.W.check_bound_init fb.toExcCallFacts (I.kIn _ _ hC) ho rfl ?_)
  refine wpAny_bind (wpAny_pure (wpAny_pure ⟨plainId_quiet fb.init.plain _, codeAny_builtin fb.initEntry ?_⟩))
  rw [Around.under_plainId fb.init.plain _]
  refine PySem.W.exc_init_tree (cls := .ref C) (t0 := t1) (dv := none) (c2 := .none) (c3 := .none) (b4 := .bool false) ho hl fun h' k hx _ => ?_
  have J := I.write (t' := t) (x := x) (e := x) (o := exo x C none) (by rw [e]; exact True.intro) (.inl rfl) k ⟨_, hx⟩ (exo_ok hx)
  have eu : upd H x (exo x C none) = H := funext fun b => by
    by_cases hb : b = x
    · rw [hb, upd_same, e]
    · rw [upd_ne hb]
  rw [eu] at J
  exact h _ J
theorem mw_with {M : Model} {A : Around} {E : Value → Shared → Prop} {s : Shared} {i : String} {u x : Addr} {pos : Pos} {env : Env} {e : Expr} {rest : List Expr} {Q : Value → Shared → Prop}
    (h : wpAny M A (spliced (backTo pos (starEach (e :: rest) env))) (fun vs s₁ => PySem.W.KxsAt i u x s₁.heap ∧ wpAny M A (call (.ref u) vs) Q E s₁) E s)
    (he : starEach (e :: rest) env = (false, eval e env) :: starEach rest env) (hpl : (backTo pos (starEach rest env)).any (·.1) = false) :
    wpAny M A (callWith pos (.ref u) [] (backTo pos (starEach (e :: rest) env)) []) Q E s := by
  rw [he] at h ⊢
  exact PySem.W.kxs_callWith (i := i) (x := x) (by show (false || (backTo pos (starEach rest env)).any (·.1)) = false; rw [hpl]; rfl) (evalArgs_plain h)

/-- a def of a class's body that begins with super().__init__(e ..), then goes on; the class at C closes over it by the cell at cc -/
theorem fn_super {CX : CXT} {P : Program} {w : World} {K : PySem.W.Frag} {mg : Str → Option Value} {base : Heap} {k : Nat} {f cc C cda : Addr} {name qual : Str} {params : Arguments} {scope : Scope} {dV kV doc pm ct oc cl ccl : Value} {an od cld cdd : Option Addr}
    {osl csl ccs : Array (Option Value)} {N ps : List Str} {sp : Sp} {e : Expr} {es : List Expr} {rest : List Stmt} {p0 p1 p2 p3 p4 : Pos} {vs2 : Array Value} {file : Str} {tf : Tok} {ar : Arg}
    (lk : K.lookup f = some ⟨oc, od, .func (PySem.W.ksFn name qual params (.Expr (.Call (.Attribute (.Call (.Name "super" p0) [] [] p1) "__init__" p2) (e :: es) [] p3) p4 :: rest) scope dV kV doc pm an (.ref cda) ct cc), osl⟩)
    (hcd : PySem.W.codeIn K (.ref cda) qual = true) (hcode : K.lookup cda = some ⟨ccl, cdd, .fields vs2, ccs⟩) (hvs : vs2[2]? = some (.str file tf)) (hfile : ((P.main.file : Str) == file) = true)
    (hcell : K.lookup cc = some ⟨cl, cld, .cell (some (.ref C)), csl⟩) (T : OexC K C) (hsup : PySem.W.ks_superIn K C C "__init__" = some (some (.builtin "ValueError.__init__")))
    (hB : PySem.W.subIn K (.ref C) (.type "ValueError") = some true) (hself : PySem.W.mroIn K C (.ref C) = some true) (hop : PySem.W.nsIn K cStatics "thirdparty.any" = some none)
    (hsn : mg "super" = none) (htop : (P.main.scope.names.lookup ("super" : Str)).isSome = false) (hp : (params.posonlyargs ++ params.args).head? = some ar) (hps : ps[0]? = some ar.arg)
    (S : NScope N ps ["__class__"] scope) (hks : scope.names.lookup ("super" : Str) = some .globalImplicit) (len : ∀ vs H Q E, sp vs H Q E → vs.length = ps.length)
    (hbody : ∀ (A : Around) (outer : List Env) (s : Shared) (H : Hp) (vs : List V) (Q : VK) (E : XK), Room k (A.deeper (envF ⟨name, qual, params, .Expr (.Call (.Attribute (.Call (.Name "super" p0) [] [] p1) "__init__" p2) (e :: es) [] p3) p4 :: rest, scope, [("__class__", cc)], cda⟩ f s.heap.objs.size)) → sp vs H Q E →
      ∃ ta t x, PA (ncx CX P w K mg base N ⟨name, qual, params, .Expr (.Call (.Attribute (.Call (.Name "super" p0) [] [] p1) "__init__" p2) (e :: es) [] p3) p4 :: rest, scope, [("__class__", cc)], cda⟩ f A outer s H E) (e :: es) ta ∧
        PSs (ncx CX P w K mg base N ⟨name, qual, params, .Expr (.Call (.Attribute (.Call (.Name "super" p0) [] [] p1) "__init__" p2) (e :: es) [] p3) p4 :: rest, scope, [("__class__", cc)], cda⟩ f A outer s H E) rest t ∧
        vs[0]? = some (.ref x) ∧ H x = some (exo x C none) ∧
        ta (startF N vs [none]) H fun ws H1 => ws.length ≤ 1000 ∧ H1 x = some (exo x C none) ∧ t { nx := fun _ H' => Q .non H', rt := Q } (startF N vs [none]) H1)
    (he : ∀ env : Env, starEach (e :: es) env = (false, eval e env) :: starEach es env) (hpl : ∀ env : Env, (backTo p3 (starEach es env)).any (·.1) = false)
    (hev : ∀ env : Env, ∃ pl : Sem Bool, eval (.Call (.Attribute (.Call (.Name "super" p0) [] [] p1) "__init__" p2) (e :: es) [] p3) env = (do
      let ov ← attributeBase (.Call (.Name "super" p0) [] [] p1) "__init__" env (eval (.Call (.Name "super" p0) [] [] p1) env)
      standAt p2.atName
      let (f, first) ← holding [ov] (getMethod ov "__init__" pl)
      callWith p3 f first (backTo p3 (starEach (e :: es) env)) []))
    (hsw : ∀ env : Env, swapsWith (.Call (.Attribute (.Call (.Name "super" p0) [] [] p1) "__init__" p2) (e :: es) [] p3) none p4.line env = pure false) :
    FnOk P w K mg base CX (k + 1) f (PySem.W.ksFn name qual params (.Expr (.Call (.Attribute (.Call (.Name "super" p0) [] [] p1) "__init__" p2) (e :: es) [] p3) p4 :: rest) scope dV kV doc pm an (.ref cda) ct cc) ps sp := by
  generalize hbd : (Stmt.Expr (.Call (.Attribute (.Call (.Name "super" p0) [] [] p1) "__init__" p2) (e :: es) [] p3) p4 :: rest) = bd at lk hbody ⊢
  refine ⟨len, fun A outer s H args us vs Q E hr e0 hb r hsp => ?_⟩
  have KX : K.In s.heap := e0.mod.kin.keeps fun b o e => (e0.bs b o e).1
  have hl := len _ _ _ _ hsp
  have lim : s.heap.NoLimit := e0.mod.nolimit.keeps fun b o e => (e0.bs b o e).1
  obtain ⟨ta, t, x, hta, ht, hv0, hx, hq⟩ := hbody A outer s H vs Q E (hr.deeper _) hsp
  have hself0 : scope.names.lookup ar.arg = some .local := S.par _ (List.mem_of_getElem? hps)
  refine PySem.ks_codeAny_call_defAt (fd := PySem.W.ksFn name qual params bd scope dV kV doc pm an (.ref cda) ct cc) hr.depth (KX _ _ lk) rfl lim (PySem.W.codeRec_of KX hcd) rfl hb S.nocell (fun ⟨n, _⟩ hy => S.par n (List.of_mem_zip hy).1) (fun h₁ hns kp => ?_) S.co S.gen S.kind
  have cin := e0.mod.kin _ _ hcell
  have Cc : CellsAt [(("__class__" : Str), cc)] ["__class__"] [none] s.heap H := by
    have lkc : ∀ (y : Str) (c : Addr), List.lookup y [(("__class__" : Str), cc)] = some c → y = "__class__" ∧ c = cc := fun y c z => by
      simp only [List.lookup] at z
      split at z
      · rename_i g
        exact ⟨by simpa using g, (Option.some.inj z).symm⟩
      · cases z
    refine ⟨rfl, fun y c z => ?_, fun y z c h1 h2 => (lkc y c h1).1.trans (lkc z c h2).1.symm, fun i y hi => ?_⟩
    · obtain ⟨_, rfl⟩ := lkc y c z
      exact ⟨(e0.bs _ _ cin).2, _, _, (e0.bs _ _ cin).1, rfl⟩
    · cases i with
      | zero =>
        obtain rfl : "__class__" = y := Option.some.inj hi
        exact ⟨cc, by simp [List.lookup], fun v z => by cases z⟩
      | succ i => simp at hi
  have I : Inv (ncx CX P w K mg base N ⟨name, qual, params, bd, scope, [("__class__", cc)], cda⟩ f A outer s H E) [] (startF N vs [none]) H { s with heap := h₁, toks := s.toks + (ps.zip us).length } :=
    inv_startN S hr.hd e0 hl r Cc hns kp
  subst hbd
  have Xk : K.In h₁ := I.kIn
  obtain ⟨ux, hux, rvx⟩ := r.get hv0
  obtain rfl : ux = Value.ref x := rvx
  have hkc : scope.names.lookup ("__class__" : Str) = some .free := S.frk _ (List.mem_singleton.mpr rfl)
  obtain ⟨nm, q, Nn, bs, bm, sn, sub, ab, col, dd, k0, k1, k2, k3, k5, hC, hbm⟩ := id T.cls
  have hcl : PySem.W.clsIn K C = some { name := nm, bases := bs, mro := .ref C :: bm, ns := Nn, qualname := q, hasDict := true, slotNames := sn, subclasses := sub, abstract := ab, collection := col, hasDel := false } := by unfold PySem.W.clsIn; rw [hC] <;> rfl
  obtain ⟨t1, ho⟩ := exo_at I.hok hx
  refine PySem.ks_wpAt_execs_cons (PySem.ks_wpAt_Expr_any ?_ (by show (scope.kind == .module && _) = false; rw [S.kind]; rfl) (hsw _))
  obtain ⟨pl, hev⟩ := hev (PySem.W.ksEnv qual scope s.heap.objs.size f (.ref cda) cc)
  refine PySem.ks_wpAt_MethodCall (pl := pl) ?_ hev
  refine PySem.ks_wpAt_super_base hks hkc rfl rfl (Xk _ _ lk) rfl hp rfl (Xk _ _ hcode) rfl hvs hfile htop ?_
  obtain ⟨mb, b1, b2⟩ := I.mod.blt
  refine PySem.W.ks_loadName_global S.kind hks (Calls.loadGlobal_builtin (I.mod.glob.keeps I.bk) hsn (b1.keeps I.bk) ((b2 "super" (by decide)).trans (by first | rfl | kernel_rfl | decide +kernel)) ⟨rfl, ?_⟩)
  refine wpAny_loadName_free S.kind hkc rfl ⟨_, Xk _ _ hcell, rfl⟩ ?_
  refine wpAny_loadName_local S.kind hself0 hns (v := .ref x) (zip_look ?nd hps hux) ?_
  case nd =>
    have z := S.nd.sublist (List.take_sublist (ps.length + 1) N)
    rw [show N.take (ps.length + 1) = ps ++ [("__class__" : Str)] from S.pre] at z
    exact (List.nodup_append.mp z).1
  refine PySem.ks_wpAny_isType_cls (Xk _ _ hC) rfl ⟨rfl, ?_⟩
  refine PySem.ks_wpAny_call_super (Xk _ _ hC) rfl ho rfl (fun c z => by cases z) (PySem.W.looks_mroIn Xk hself) (fun h2 e2 kp2 => ?_)
  have I2 := I.kept (t' := s.toks + (ps.zip us).length) kp2
  obtain ⟨t2, ho2⟩ := exo_at I2.hok hx
  have X2 : K.In h2 := I2.kIn
  have inst : PySem.W.InstAt h2 x ({ cls := .ref C, dict := none, data := .fields #[.ref t2, .none, .none, .none, .bool false, .none] } : Obj) C none := ⟨ho2, rfl, rfl, trivial⟩
  refine PySem.W.kxs_getMethod PySem.W.kxs_ValueError e2 (PySem.W.looks_opaque X2 hop) (l₀ := .ref C :: bm) ((PySem.W.looks_clsIn X2 hcl).andThen .now) (l := ((Value.ref C :: bm).dropWhile (· != .ref C)).drop 1) rfl X2 ?_ (inst.type.andThen (PySem.W.looks_subIn X2 hB)) ?_ (by rfl) ?_
  · unfold PySem.W.ks_superIn at hsup
    rw [hcl] at hsup
    exact hsup
  · exact PySem.W.ks_ne X2 inst hcl
  have up : ∀ b u, h2.get? b = some u → (h2.push (PySem.W.kxs_mw "ValueError.__init__" x)).get? b = some u := fun b u z => Heap.get?_push_of_some _ z
  have I3 := I2.kept (h' := h2.push (PySem.W.kxs_mw "ValueError.__init__" x)) (t' := s.toks + (ps.zip us).length + 1) up
  have hget : (h2.push (PySem.W.kxs_mw "ValueError.__init__" x)).get? h2.objs.size = some (PySem.W.kxs_mw "ValueError.__init__" x) := Heap.get?_push_size _ rfl
  have I4 := I3.pins_of (pins' := [(h2.objs.size, PySem.W.kxs_mw "ValueError.__init__" x)]) fun p hp => by
    obtain rfl := List.mem_singleton.mp hp
    exact ⟨hget, I2.hok.fresh (Nat.le_refl _), Nat.ne_of_gt I2.lt, I2.nofs (Nat.le_refl _), fun v z => by cases z⟩
  refine mw_with (i := "ValueError.__init__") (x := x) ?_ (he _) (hpl _)
  refine thn (hta.run p3 _ _ (startF N vs [none]) H _ I4 hq) fun ws s5 hh => ?_
  obtain ⟨vs5, H5, I5, r5, l5, hx5, q5⟩ := hh
  refine ⟨(I5.pin (h2.objs.size, PySem.W.kxs_mw "ValueError.__init__" x) (List.mem_append_right _ (List.mem_singleton.mpr rfl))).1, ?_⟩
  refine mw_run T I5 hx5 ((I5.pin (h2.objs.size, PySem.W.kxs_mw "ValueError.__init__" x) (List.mem_append_right _ (List.mem_singleton.mpr rfl))).1) (by rw [← Paired.length r5, sizeLine_eq]; omega) fun s6 I6 => ?_
  refine PySem.wpAt_of_wpAny (wpAny_mono (ht.run _ s6 (startF N vs [none]) H5 _ I6 q5) (fun fl s7 hs => ?_) fun e s7 hs => hs)
  have fin : ∀ {σ' : L2.St} {H' : Hp} {v : V} {u : Value} {pp : List (Addr × Obj)}, Inv (ncx CX P w K mg base N ⟨name, qual, params, Stmt.Expr (.Call (.Attribute (.Call (.Name "super" p0) [] [] p1) "__init__" p2) (e :: es) [] p3) p4 :: rest, scope, [("__class__", cc)], cda⟩ f A outer s H E) pp σ' H' s7 → L2.RelV v u → Q v H' → CE outer P w H s Q u s7 :=
    fun J rv q => ⟨_, _, J.os, J.bare, J.base, J.hok, rv, q⟩
  cases fl with
  | ret u => obtain ⟨v, σ', H', J, rv, q⟩ := hs; exact fin J rv q
  | next => obtain ⟨σ', H', J, q⟩ := hs; exact fin (v := V.non) (u := Value.none) J rfl q
  | brk => obtain ⟨_, _, _, q⟩ := hs; exact q.elim
  | cont => obtain ⟨_, _, _, q⟩ := hs; exact q.elim
end

/-! ### an own class of errors with one field -/
structure ErrC (K : PySem.W.Frag) (C a : Addr) (st : Stmt) (qual fld : Str) (fd : FuncData) : Prop where
  ox : OexC K C
  xf : XfC K C
  no : PySem.W.findIn K (.ref C) fld = some none
  ini : PySem.W.findIn K (.ref C) "__init__" = some (some (.ref a))
  ty : PySem.W.typeIn K (.ref a) = some (.type "function")
  fn : ∃ (oc kV doc pm ct ccl cl : Value) (od an cdd cld : Option Addr) (cda cc : Addr) (osl ccs csl : Array (Option Value)) (vs2 : Array Value) (tf : Tok), fd = PySem.W.ksFn "__init__" qual (defArgs st) (defBody st) (defScope st) .none kV doc pm an (.ref cda) ct cc ∧
    K.lookup a = some ⟨oc, od, .func fd, osl⟩ ∧ PySem.W.codeIn K (.ref cda) qual = true ∧ K.lookup cda = some ⟨ccl, cdd, .fields vs2, ccs⟩ ∧ vs2[2]? = some (.str "/claim/cut.py" tf) ∧ K.lookup cc = some ⟨cl, cld, .cell (some (.ref C)), csl⟩ ∧
    PySem.W.ks_superIn K C C "__init__" = some (some (.builtin "ValueError.__init__")) ∧ PySem.W.subIn K (.ref C) (.type "ValueError") = some true ∧ PySem.W.mroIn K C (.ref C) = some true ∧ PySem.W.nsIn K cStatics "thirdparty.any" = some none
/-- the program's file, and that its top has no name super -/
class PrOk (P : Program) : Prop where
  file : ((P.main.file : Str) == "/claim/cut.py") = true
  top : (P.main.scope.names.lookup ("super" : Str)).isSome = false
section
variable {CX : CXT} {P : Program} {w : World} {K : PySem.W.Frag} {mg : Str → Option Value} {base : Heap} {N : List Str} {qual : Str} {scope : Scope} {f : Addr} {cd : Value} {A : Around} {outer : List Env} {s : Shared} {H : Hp} {E : XK}
instance [h : PrOk P] : PrOk (cxOf CX P w K mg base N qual scope f cd A outer s H E).prog := h
instance {X : Cx} [h : PrOk X.prog] : PrOk X.nox.prog := h
instance {X : Cx} [h : PrOk X.prog] {pn : List (Addr × Obj)} {xe : Value → Shared → Prop} : PrOk (X.tr pn xe).prog := h
instance {X : Cx} [h : PrOk X.prog] {a : Addr} {pn : List (Addr × Obj)} : PrOk (X.suite a pn).prog := h
end
/-- X.__init__(self, v) -/
def spErr (C : Addr) (fld : Str) (ok : V → Prop) : Sp := fun vs H Q _ => ∃ x v, vs = [.ref x, v] ∧ H x = some (exo x C none) ∧ ok v ∧ ∀ dx, H dx = none → dx ≠ x → Q .non (upd (upd H dx (exd dx [(fld, v)])) x (exo x C (some dx)))
/-- what raise X(v) asks -/
theorem raise_ok {C : Addr} {fld : Str} {ok : V → Prop} {H1 : Hp} {v : V} {Q : XK} (hv : ok v) (k : ∀ d H', Same H1 H' → H1 d = none → H' d = some (.xd [(fld, v)]) → Q (.ref C) (some d) H') :
    [v].length ≤ 1000 ∧ ∀ a, H1 a = none → spErr C fld ok (.ref a :: ([v] ++ [])) (upd H1 a (exo a C none))
      (fun w H2 => w = .non ∧ ∃ (d : Addr) (fs : List (Str × V)), H2 a = some (exo a C (some d)) ∧ H2 d = some (exd d fs) ∧ H1 d = none ∧ Q (.ref C) (some d) (upd (del H2 a) d (.xd fs))) (fun _ _ _ => False) := by
  refine ⟨by show 1 ≤ 1000; decide, fun a na => ⟨a, v, rfl, upd_same, hv, fun dx nd ne => ⟨rfl, dx, [(fld, v)], upd_same, ?_, ?_, ?_⟩⟩⟩
  · rw [upd_ne ne, upd_same]
  · rw [upd_ne ne] at nd
    exact nd
  · have nd1 : H1 dx = none := by rw [upd_ne ne] at nd; exact nd
    refine k dx _ (fun b o e => ?_) nd1 upd_same
    have b1 : b ≠ dx := ne_of_none e nd1
    have b2 : b ≠ a := ne_of_none e na
    rw [upd_ne b1, del_ne b2, upd_ne b2, upd_ne b1, upd_ne b2]
    exact e
/-! ### try .. except x as n .. else -/
section
variable {X : Cx} {x n : Str} {c : Value} {i : Nat} {body suite orelse : List Stmt} {b1 : Stmt} {q1 q2 q3 : Pos} {tb : WX → TS} {ts : Addr → Value → Option Addr → TS} {Wout : WX} {u : TS}
def tTryE (K : PySem.W.Frag) (c : Value) (i : Nat) (tb : WX → TS) (ts : Addr → Value → Option Addr → TS) (Wout : WX) (u : TS) : TS := fun D σ H => tb (wAs K c i ts Wout D) { D with nx := u D } σ H
theorem ps_try_asE (ho : PSs X orelse u) (hs : X.stack = X.env :: X.outer) (hf : X.env.frame = some X.env.locals) (hN : X.N.Nodup) (hi : X.N[i]? = some n) (hl : X.env.kindOf n = some .local) (hc : Names X x c) (tk : Takes X Wout)
    (hb : ∀ (W : WX) (pn : List (Addr × Obj)) (xe : Value → Shared → Prop), Takes (X.tr pn xe) W → PassesOwn (model X.prog X.w) X.A X.env xe → PSs (X.tr pn xe) body (tb W))
    (hsu : ∀ (a : Addr) (oe : Obj) (cls : Value) (d : Option Addr) (pn : List (Addr × Obj)), Zc cls d oe → (∃ vs, oe.data = .fields vs) → PSs (X.suite a ((a, oe) :: pn)) (b1 :: suite) (ts a cls d)) :
    PS X (.Try body [.ExceptHandler (some (.Name x q1)) (some n) (b1 :: suite) q2] orelse [] q3) (tTryE X.K c i tb ts Wout u) := by
  -- without else first: what the clause does with an exception of the body
  refine ⟨fun pins s σ H D I h => wpAny_Try_except ?_⟩
  have ok := I.ok
  have afr : X.A.frames = some (X.env :: X.outer) := by rw [ok.frames, hs]
  let Ex : Value → Shared → Prop := fun e s₁ => wpAny (model X.prog X.w) X.A (noteFrame e X.env) (fun _ s₂ => wpAny (model X.prog X.w) X.A (setFlight e none) (fun _ s₃ => wpAny (model X.prog X.w) X.A (handleBy e X.env [.ExceptHandler (some (.Name x q1)) (some n) (b1 :: suite) q2]) (SP X pins D) X.xe s₃) X.xe s₂) X.xe s₁
  have catch_ : Takes (X.tr (X.pn ++ pins) Ex) (wAs X.K c i ts Wout D) := by
    rintro _ sh ⟨ea, G, sl, pp, τ, Hτ, cl, dd, rfl, Jt, nb, up, sky, na, os, ag, bo, hbo, hy, hn⟩
    have J := Jt.ofTry ok
    rw [show (X.tr (X.pn ++ pins) Ex).stack = X.env :: X.outer from hs] at sky
    refine Sky.land Zc.steady afr hf sky fun g3 f3 u3 => ?_
    have J3 := J.landed (s' := { sh with heap := g3 }) nb f3.1 (up.trans u3) os ag
    obtain ⟨ob, fv, eb, zb, db⟩ := f3.there
    have far : ea ∉ frs (X.env :: X.outer) := fun hm => by
      obtain ⟨_, o2, e2, k2⟩ := (show g3.FunFrames G (X.env :: X.outer) from f3.2.2.1).mem hm
      rw [eb] at e2
      cases e2
      exact k2 _ db
    have eL : ea ≠ X.env.locals := fun z => far (List.mem_filterMap.mpr ⟨X.env, .head _, by rw [hf, z]⟩)
    have eF : ea ∉ X.fs := fun hm => by
      obtain ⟨v, hv, q⟩ := List.mem_filterMap.mp hm
      exact far (List.mem_filterMap.mpr ⟨v, .tail _ hv, q⟩)
    have S3 := J3.suite eb db na eL eF
    refine wpAny_handleBy_cons (codeAny_handlers_test ?_) (fun q => by cases q)
    have tyE : PySem.W.Looks (model X.prog X.w) g3 (typeOf (.ref ea)) cl := fun _ _ _ _ kk q => wpAny_typeOf_ref (kk _ _ eb) (by rw [zb.1]; exact q)
    have isE := PySem.W.exm_one (M := model X.prog X.w) J3.kIn tyE hbo
    have named : ∀ {Q : Value → Shared → Prop} {E : Value → Shared → Prop}, Q c { sh with heap := g3 } → wpAny (model X.prog X.w) (X.A.mark (some (.ref ea))) (eval (.Name x q1) X.env) Q E { sh with heap := g3 } := fun q => by
      rcases hc with ⟨gl, dbg, hm | ⟨hm, hv, nn⟩⟩
      · exact ld_glob (X := X.suite ea ((ea, ob) :: (X.pn ++ pins))) S3 gl hm q dbg
      · exact ld_blt (X := X.suite ea ((ea, ob) :: (X.pn ++ pins))) S3 gl hm hv q nn dbg
    refine named (isE.here ?_)
    cases bo
    · refine wpAny_handleBy_nil ?_
      obtain ⟨_, _, _, oz, wz, tz, _, _, ez, _, dz, gz, _⟩ := id f3
      have up2 : wpAny (model X.prog X.w) X.A (setFlight (.ref ea) X.env.frame) (fun _ s4 => wpAny (model X.prog X.w) X.A (throw (.ref ea) : Sem Flow) (SP X pins D) X.xe s4) X.xe { sh with heap := g3 } := by
        rw [hf]
        exact HandSPX.setFlight_upZ f3 fun g4 h4 u4 => wpAny_throw (tk _ _ ⟨ea, G, sl, pins, τ, Hτ, cl, dd, rfl, J, nb, (up.trans u3).trans u4, .inr (.inr (by rw [hs]; exact h4)), na, os, ag, hn rfl⟩)
      unfold PySem.passOn
      refine wpAny_bind (wpAny_field ez dz gz ?_)
      rw [if_neg (show ¬ ((Value.ref tz == Value.none) = true) by simp)]
      first | exact wpAny_bind (wpAny_pure (wpAny_bind up2)) | exact wpAny_bind up2
    · refine codeAny_handlers_suite_as (HandSPX.lands_againZ f3 fun g4 f4 u4 => ?_)
      have J4 := J.landed (s' := { sh with heap := g4 }) nb f4.1 ((up.trans u3).trans u4) os ag
      obtain ⟨o4, v4, e4, z4, d4⟩ := f4.there
      refine store_ok (X := X.suite ea ((ea, o4) :: (X.pn ++ pins))) (v := .ref ea) (J4.suite e4 d4 na eL eF) hN hi (.inl hl) rfl (fun s5 S5 => ?_) (.inr hl)
      refine wpAny_mono ((hsu ea o4 cl dd (X.pn ++ pins) z4 ⟨_, d4⟩).run [] s5 _ Hτ _ S5 (hy rfl ea na)) (fun fl s6 hsp => ?_) fun _ _ z => z.elim
      cases fl
      case next => obtain ⟨_, _, S6, q6⟩ := hsp; exact gone_ok (S6.unsuite ok) hN hi hl fun s7 J7 => ⟨_, _, J7, q6⟩
      case brk => obtain ⟨_, _, S6, q6⟩ := hsp; exact gone_ok (S6.unsuite ok) hN hi hl fun s7 J7 => ⟨_, _, J7, q6⟩
      case cont => obtain ⟨_, _, S6, q6⟩ := hsp; exact gone_ok (S6.unsuite ok) hN hi hl fun s7 J7 => ⟨_, _, J7, q6⟩
      case ret w => obtain ⟨_, _, _, S6, r6, q6⟩ := hsp; exact gone_ok (S6.unsuite ok) hN hi hl fun s7 J7 => ⟨_, _, _, J7, r6, q6⟩
  refine wpAny_mono ((hb _ _ Ex catch_ PassesOwn.looking).run [] s σ H { D with nx := u D } (I.toTry _) h) (fun fl s1 hsp => ?_) fun _ _ z => z
  cases fl
  case next => obtain ⟨_, _, J, q⟩ := hsp; exact ho.run pins s1 _ _ D (J.ofTry ok) q
  case brk => obtain ⟨_, _, J, q⟩ := hsp; exact ⟨_, _, J.ofTry ok, q⟩
  case cont => obtain ⟨_, _, J, q⟩ := hsp; exact ⟨_, _, J.ofTry ok, q⟩
  case ret w => obtain ⟨_, _, _, J, r, q⟩ := hsp; exact ⟨_, _, _, J.ofTry ok, r, q⟩
end
section
variable {X : Cx} {x n : Str} {c : Value} {i : Nat} {body suite : List Stmt} {b1 : Stmt} {q1 q2 q3 : Pos} {tb : WX → TS} {ts : Addr → Value → Option Addr → TS} {Wout : WX}
def tTryA (K : PySem.W.Frag) (c : Value) (i : Nat) (tb : WX → TS) (ts : Addr → Value → Option Addr → TS) (Wout : WX) : TS := fun D σ H => tb (wAs K c i ts Wout D) D σ H
theorem ps_try_asN (hs : X.stack = X.env :: X.outer) (hf : X.env.frame = some X.env.locals) (hN : X.N.Nodup) (hi : X.N[i]? = some n) (hl : X.env.kindOf n = some .local) (hc : Names X x c) (tk : Takes X Wout)
    (hb : ∀ (W : WX) (pn : List (Addr × Obj)) (xe : Value → Shared → Prop), Takes (X.tr pn xe) W → PassesOwn (model X.prog X.w) X.A X.env xe → PSs (X.tr pn xe) body (tb W))
    (hsu : ∀ (a : Addr) (oe : Obj) (cls : Value) (d : Option Addr) (pn : List (Addr × Obj)), Zc cls d oe → (∃ vs, oe.data = .fields vs) → PSs (X.suite a ((a, oe) :: pn)) (b1 :: suite) (ts a cls d)) :
    PS X (.Try body [.ExceptHandler (some (.Name x q1)) (some n) (b1 :: suite) q2] [] [] q3) (tTryA X.K c i tb ts Wout) := ps_try_as hs hf hN hi hl hc tk hb hsu
end
/-! ### calls that may raise, wished for at the caller's slots -/
section
variable {X : Cx} {CX : CXT} {k : Nat} {f C : Addr} {fd : FuncData} {ps : List Str} {sp : Sp} {dvs : List V} {ds : List Value} {E : L2.St → XK} {x m : Str} {p pos apos : Pos} {e o : Expr} {es : List Expr} {ta : TE} {t : TA}
def tMethT (C : Addr) (m : Str) (sp : Sp) (dvs : List V) (E : L2.St → XK) (ta : TE) (t : TA) : TE := fun σ H Q => ta σ H fun x H1 => ∃ a dx fs, x = .ref a ∧ H1 a = some (.ins C dx fs) ∧ fs.lookup m = none ∧ t σ H1 fun vs H2 => sp (x :: (vs ++ dvs)) H2 Q (E σ)
theorem pe_methT {pl : Sem Bool} (he : PE X o ta) (c : Cls X.K C) (hm : Meth X.K C m f) (F : FnOk X.prog X.w X.K X.mg X.base CX k f fd ps sp) (hr : Room k X.A) (hb : Binds X.K fd ps ds) (hd : Vals dvs ds) (hx : ∀ σ, PassesAt CX X σ (E σ)) (ha : PA X (e :: es) t)
    (hst : starEach (e :: es) X.env = (false, eval e X.env) :: starEach es X.env := by rfl) (hpl : (backTo pos (starEach es X.env)).any (·.1) = false := by rfl)
    (ht : eval (.Call (.Attribute o m apos) (e :: es) [] pos) X.env = (eval o X.env >>= fun ov => standAt apos.atName >>= fun _ => holding [ov] (getMethod ov m pl) >>= fun z => callWith pos z.1 z.2 (backTo pos (starEach (e :: es) X.env)) (backToKw pos (keywordEach [] X.env))) := by rfl) :
    PE X (.Call (.Attribute o m apos) (e :: es) [] pos) (tMethT C m sp dvs E ta t) := by
  refine ⟨fun pins s σ H Q I h => PySem.W.methodCall_KW (pl := pl) (thn (he.run pins s σ H _ I h) fun w s1 hh => ?_) ht⟩
  obtain ⟨_, H1, I1, rx, a, dx, fs, rfl, ea, l, q⟩ := hh
  cases (show w = Value.ref a from rx)
  refine getmeth_ok I1 ea c hm l (PySem.W.callWith_K (first := [.ref a]) (h₀ := X.base) I.ok.mod.kin hm.kp (thn (ha.run pos pins s1 σ H1 _ I1 q) fun us s2 h2 => ?_) hst hpl)
  obtain ⟨vs, H2, I2, r, q2⟩ := h2
  exact ⟨I2.kIn, run_fnSD (us := .ref a :: us) (vs := .ref a :: vs) F hr hb hd (hx σ) I2 (.cons rfl r) q2⟩
def tMakeT (C : Addr) (sp : Sp) (dvs : List V) (E : L2.St → XK) (t : TA) : TE := fun σ H Q => t σ H fun vs H1 => ∀ x dx, H1 x = none → H1 dx = none → dx ≠ x → sp (.ref x :: (vs ++ dvs)) (upd (upd H1 dx (.own x)) x (.ins C dx [])) (fun v H2 => v = .non ∧ Q (.ref x) H2) (E σ)
theorem pe_makeT (M : Mk X.K C f) (F : FnOk X.prog X.w X.K X.mg X.base CX k f fd ps sp) (hr : Room (k + 1) X.A) (hg : Gl X x) (hm : X.mg x = some (.ref C)) (hb : Binds X.K fd ps ds) (hd : Vals dvs ds) (hx : ∀ σ, PassesAt CX X σ (E σ))
    (ha : PA X (e :: es) t) (hdb : (x == ("__debug__" : Str)) = false := by decide) (he : starEach (e :: es) X.env = (false, eval e X.env) :: starEach es X.env := by rfl) (hpl : (backTo pos (starEach es X.env)).any (·.1) = false := by rfl) :
    PE X (.Call (.Name x p) (e :: es) [] pos) (tMakeT C sp dvs E t) := by
  refine ⟨fun pins s σ H Q I h => wpAny_Call_Name_kw (ld_glob I hg hm (PySem.W.callWith_K (h₀ := X.base) I.ok.mod.kin M.kp (thn (ha.run pos pins s σ H _ I h) fun us s1 hh => ?_) he hpl) hdb)⟩
  obtain ⟨vs, H1, I1, r, q⟩ := hh
  refine ⟨I1.kIn, ?_⟩
  have q' := q (s1.heap.objs.size + 1) s1.heap.objs.size (I1.hok.fresh (Nat.le_succ _)) (I1.hok.fresh (Nat.le_refl _)) (Nat.ne_of_lt (Nat.lt_succ_self _))
  have made := Inv.made (C := C) I1
  have rr : Vals (V.ref (s1.heap.objs.size + 1) :: (vs ++ dvs)) (Value.ref (s1.heap.objs.size + 1) :: (us ++ ds)) := .cons rfl (r.append hd)
  have ln := rr.length
  rw [F.len _ _ _ _ q'] at ln
  have bb := hb _ (Value.ref (s1.heap.objs.size + 1) :: us) made.kIn ln.symm
  have run := F.run _ X.stack _ _ ⟨Value.ref (s1.heap.objs.size + 1) :: us, []⟩ _ _ _ (E σ) (hr.make C us []) (made.env0.make C us []) bb rr q'
  refine wpAny_call (make_map (f := f) I1.kIn M.makes M.init (beq_iff_eq.mp M.fn) (codeAny_mono run fun res s' hres => ?_))
  rcases res with er | fl
  · exact hx σ pins _ _ er s' made hres
  · cases fl
    case ret w =>
      obtain ⟨_, H', I3, rv, rfl, q3⟩ := made.after hres
      exact ⟨rv, V.ref (s1.heap.objs.size + 1), H', I3, rfl, q3⟩
    all_goals exact hres.elim
end

/-! ### defs called while an exception is handled (they raise nothing) -/
structure FnQ (P : Program) (w : World) (K : PySem.W.Frag) (mg : Str → Option Value) (base : Heap) (k : Nat) (f : Addr) (fd : FuncData) (ps : List Str) (sp : Sp) : Prop where
  size : ∀ vs H Q E, sp vs H Q E → vs.length = ps.length
  runs : ∀ (A : Around) (outer : List Env) (s : Shared) (H : Hp) (args : Args) (us : List Value) (vs : List V) (Q : VK) (E : XK), L2H.RoomH k A → Env0 P w K mg base A outer s H → BindsTo s fd args (ps.zip us) → Vals vs us → sp vs H Q E → codeAny (model P w) A (.call (.ref f) args) (CR CX0 outer P w H s Q E) s
def cxQ (P : Program) (w : World) (K : PySem.W.Frag) (mg : Str → Option Value) (base : Heap) (N : List Str) (qual : Str) (scope : Scope) (f : Addr) (cd : Value) (A : Around) (outer : List Env) (s : Shared) (H : Hp) (E : XK) : Cx :=
  { cxOf CX0 P w K mg base N qual scope f cd A outer s H E with calm := false }
instance {P : Program} {w : World} {K : PySem.W.Frag} {mg : Str → Option Value} {base : Heap} {N : List Str} {qual : Str} {scope : Scope} {f : Addr} {cd : Value} {A : Around} {outer : List Env} {s : Shared} {H : Hp} {E : XK} [h : PrOk P] : PrOk (cxQ P w K mg base N qual scope f cd A outer s H E).prog := h
theorem inv_cold {P : Program} {w : World} {K : PySem.W.Frag} {mg : Str → Option Value} {base : Heap} {N : List Str} {qual : Str} {scope : Scope} {f : Addr} {cd : Value} {A : Around} {outer : List Env} {s s1 : Shared} {H H1 : Hp} {E : XK} {pins : List (Addr × Obj)} {σ : L2.St}
    (I : Inv (cxOf CX0 P w K mg base N qual scope f cd { A with handled := none } outer s H E) pins σ H1 s1) (fr : A.frames = some outer) : Inv (cxQ P w K mg base N qual scope f cd A outer s H E) pins σ H1 s1 :=
  have o := I.ok
  ⟨⟨o.mod, o.kind, o.glob, o.blt, o.above, o.inj, o.has, o.cab, fun z => Bool.noConfusion (show false = true from z), Around.frames_deeper fr, o.stk, o.exf, o.bs, o.bsz, o.noex, o.exfs, o.funs, o.frf⟩, I.os, I.bare, I.base, I.loc, I.cell, I.free, I.freeC, I.pin, I.hok, I.len⟩
theorem fun_okQ {P : Program} {w : World} {K : PySem.W.Frag} {mg : Str → Option Value} {base : Heap} {x qual : Str} {st : Stmt} {f : Addr} {fd : FuncData} {N ps : List Str} {k : Nat} {sp : Sp} (F : Fun K x qual st f fd) (S : FnScope N ps (defScope st)) (len : ∀ vs H Q E, sp vs H Q E → vs.length = ps.length)
    (hbody : ∀ (cdv : Value) (A : Around) (outer : List Env) (s : Shared) (H : Hp) (vs : List V) (Q : VK) (E : XK), L2H.RoomH k (A.deeper (envOfC qual (defScope st) s.heap.objs.size f cdv)) → sp vs H Q E →
      ∃ t, PSs (cxQ P w K mg base N qual (defScope st) f cdv A outer s H E).nox (defBody st) t ∧ t { nx := fun _ H' => Q .non H', rt := Q } (start N vs) H) : FnQ P w K mg base (k + 1) f fd ps sp := by
  obtain ⟨a1, a2, a3, a4, a5, a6, cv, a7, a8, rfl, at_, code⟩ := F.ex
  refine ⟨len, fun A outer s H args us vs Q E hr e0 hb r h => ?_⟩
  have Kin : K.In s.heap := e0.mod.kin.keeps fun b o e => (e0.bs b o e).1
  have free : s.heap.NoLimit := e0.mod.nolimit.keeps fun b o e => (e0.bs b o e).1
  refine codeAny_call_function hr.depth (Kin _ _ at_) rfl S.co S.gen rfl (PySem.W.codeRec_of Kin code) (hb _ _ _ _ (wpAny_newFunctionEnv_cells S.kind (fun y hy => ?_) fun env he s1 z => ?_))
  · obtain ⟨n, v⟩ := y
    exact (S.par n (List.of_mem_zip hy).1).imp id fun q => ⟨q, PySem.W.cellsFrom_some _ _ _ (.inl q)⟩
  · subst he
    obtain ⟨t, ht, hq⟩ := hbody cv A outer s H vs Q E (hr.deeper _) h
    have e1 : Env0 P w K mg base { A with handled := none } outer s H := ⟨e0.frames, e0.mod, e0.bs, e0.bsz, e0.funs, e0.frf, e0.hok, e0.bare⟩
    have J := inv_cold (inv_start (CX := CX0) (E := E) (f := f) (cd := cv) S rfl e1 (len _ _ _ _ h) r z) e0.frames
    refine ⟨free.keeps z.toInCall.keep, codeAny_func (wpAny_mono (ht.nox.run [] s1 (start N vs) H _ J hq) (fun fl s2 hs => ?_) fun _ _ y => y)⟩
    cases fl
    case ret u => obtain ⟨v, _, H', J2, rv, q⟩ := hs; exact ⟨v, H', J2.os, J2.bare, J2.base, J2.hok, rv, q⟩
    case next => obtain ⟨_, H', J2, q⟩ := hs; exact ⟨V.non, H', J2.os, J2.bare, J2.base, J2.hok, (rfl : RelV V.non Value.none), q⟩
    case brk => obtain ⟨_, _, _, q⟩ := hs; exact q.elim
    case cont => obtain ⟨_, _, _, q⟩ := hs; exact q.elim
section
variable {X : Cx} {k : Nat} {f : Addr} {fd : FuncData} {ps : List Str} {sp : Sp} {x : Str} {q pos : Pos} {e : Expr} {es : List Expr} {t : TA}
def tTru (K : PySem.W.Frag) (ta : TE) : TT := fun σ H Q => ta σ H fun x H' => ∃ b, TruV K x H' b ∧ Q b H'
theorem pt_tru {a : Expr} {ta : TE} {ea : Addr} {pn : List (Addr × Obj)} (ha : PE (X.suite ea pn) a ta) (he : ∀ whole, isTrue a X.env whole = (whole >>= fun v => standAt a.pos >>= fun _ => holding [v] (truthy v))) : PT (X.suite ea pn) a (tTru X.K ta) := pt_truth (X := X.suite ea pn) ha he
theorem pe_fldS {o : Expr} {ta : TE} {g : Str} {ea : Addr} {pn : List (Addr × Obj)} {q0 : Pos} (h : PE (X.suite ea pn) o ta) (hb : attributeBase o g X.env (eval o X.env) = eval o X.env) : PE (X.suite ea pn) (.Attribute o g q0) (tFld X.K ta g) := pe_fld (X := X.suite ea pn) h hb
theorem roomS {X : Cx} {a : Addr} {pn : List (Addr × Obj)} {i j : Nat} (h : Room j X.A) (le : i ≤ j) : L2H.RoomH i (X.suite a pn).A := ⟨(h.mono le).dp, (h.mono le).un⟩
def tCallQ (sp : Sp) (t : TA) : TE := fun σ H Q => t σ H fun vs H1 => sp vs H1 Q (fun _ _ _ => False)
theorem pe_callQ (F : FnQ X.prog X.w X.K X.mg X.base k f fd ps sp) (hr : L2H.RoomH k X.A) (hg : Gl X x) (hm : X.mg x = some (.ref f)) (hk : PySem.W.keepIn X.K (.ref f) = true) (hb : Binds X.K fd ps [])
    (ha : PA X (e :: es) t) (hdb : (x == ("__debug__" : Str)) = false := by decide) (he : starEach (e :: es) X.env = (false, eval e X.env) :: starEach es X.env := by rfl) (hpl : (backTo pos (starEach es X.env)).any (·.1) = false := by rfl) :
    PE X (.Call (.Name x q) (e :: es) [] pos) (tCallQ sp t) := by
  refine ⟨fun pins s σ H Q I h => wpAny_Call_Name_kw (ld_glob I hg hm (PySem.W.callWith_K (h₀ := X.base) I.ok.mod.kin hk (thn (ha.run pos pins s σ H _ I h) fun us s1 hh => ?_) he hpl) hdb)⟩
  obtain ⟨vs, H1, I1, r, q1⟩ := hh
  have b := hb s1 us I1.kIn (by rw [List.append_nil, ← r.length]; exact F.size _ _ _ _ q1)
  rw [List.append_nil] at b
  refine ⟨I1.kIn, wpAny_call (codeAny_mono (F.runs X.A X.stack s1 H1 ⟨us, []⟩ us vs Q (fun _ _ _ => False) hr I1.env0 b r q1) fun res s2 hres => ?_)⟩
  rcases res with er | fl
  · exact hres.elim
  · cases fl
    case ret u => exact I1.after hres
    all_goals exact hres.elim
end
theorem exm_sup {K : PySem.W.Frag} {S B : Addr} (h1 : PySem.W.subIn K (.ref B) (.type "BaseException") = some true) (h2 : PySem.W.isClsIn K B = true) (h3 : PySem.W.typeIn K (.ref B) = some (.type "type")) (h4 : PySem.W.subIn K (.ref S) (.ref B) = some true) :
    PySem.W.exmOne K (.ref S) (.ref B) = some true := by
  unfold PySem.W.exmOne
  have e1 : (PySem.W.subIn K (.ref B) (.type "BaseException") == some true) = true := by rw [h1] <;> rfl
  have e2 : ((PySem.W.clsIn K B).isSome && PySem.W.typeIn K (.ref B) == some (.type "type")) = true := by
    rw [show (PySem.W.clsIn K B).isSome = true from h2, h3] <;> rfl
  rw [if_pos e1]
  show (if ((PySem.W.clsIn K B).isSome && PySem.W.typeIn K (.ref B) == some (.type "type")) = true then PySem.W.subIn K (.ref S) (.ref B) else none) = some true
  rw [if_pos e2]
  exact h4
theorem exm_self {K : PySem.W.Frag} {S : Addr} (h1 : PySem.W.subIn K (.ref S) (.type "BaseException") = some true) (h2 : PySem.W.isClsIn K S = true) (h3 : PySem.W.typeIn K (.ref S) = some (.type "type")) (h4 : PySem.W.subIn K (.ref S) (.ref S) = some true) :
    PySem.W.exmOne K (.ref S) (.ref S) = some true := exm_sup h1 h2 h3 h4
/-! ### isinstance of a caught error -/
structure ErrI (K : PySem.W.Frag) (D : Addr) : Prop where
  ha : PySem.W.findIn K (.ref D) "__class__" = some (some (.builtin "object.__class__"))
  hn : PySem.W.specialIn K (.builtin "object.__class__") "__get__" = some (some (.builtin "getset_descriptor.__get__"))
  ht : PySem.W.takesIn K (.builtin "object.__class__") = some true
  hm : PySem.W.mroIn K D (.type "object") = some true
section
open PySem.W PySem.Calls
variable {prog : Program} {w : World} {A : Around} {E : Value → Shared → Prop} {s : Shared} {K : Frag} {x D : Addr} {ox : Obj} {od : Option Obj}
theorem exc_class {Q : Option Value → Shared → Prop} (T : OexC K D) (F : XfC K D) (Y : ErrI K D) (X : K.In s.heap) (J : InstAt s.heap x ox D od) (h : Q (some (.ref D)) { s with toks := s.toks + 1 }) : wpAny (model prog w) A (getAttr? (.ref x) "__class__") Q E s := by
  have bound : findObj K D od "__class__" = some (.bind (.builtin "getset_descriptor.__get__") (.builtin "object.__class__")) := by
    obtain ⟨_, _, _, _, _, _, _, _, _, _, _, _, _, _, _, at_, _⟩ := T.cls
    unfold findObj clsIn
    rw [at_]
    simp only [Option.bind_some, Y.ha, Y.hn, Y.ht]
  obtain ⟨g0, a0, d0, t0, o0⟩ := s
  have ty := J.type (M := model prog w); have ga := looks_findIn (M := model prog w) X F.ga; have gg := looks_findIn (M := model prog w) X F.gg; have fd := looks_find (M := model prog w) X J bound
  have below : Looks (model prog w) g0 (isInstance (.ref x) (.type "BaseException")) true := ty.andThen (looks_subIn X F.exC)
  have b2 : (Value.builtin "BaseException.__getattribute__" == Value.builtin "object.__getattribute__") = false := by decide +kernel
  unfold getAttr? getAttrBy? getAttrBy
  refine wpAny_bind (wpAny_mkText (wpAny_bind (wpAny_attempt (wpAny_holding (wpAny_bind (ty.at (wpAny_bind (ga.at ?_))))))))
  show wpAny _ _ (ite ((onTheHeap (Value.ref D) && Value.builtin "BaseException.__getattribute__" == Value.builtin "object.__getattribute__") = true) _ _) _ _ _
  rw [b2, Bool.and_false, if_neg Bool.false_ne_true]
  unfold getAttrByItsOwn hookBefore; refine wpAny_bind ?_; rw [if_pos (show onTheHeap (Value.ref D) = true from rfl)]
  refine gg.at (wpAny_bind (wpAny_attempt (wpAny_holding ?_)))
  unfold callGetattribute; rw [show (false && onTheHeap (Value.builtin "BaseException.__getattribute__")) = false from rfl, if_neg Bool.false_ne_true]
  unfold boundAndCalled; rw [PySem.F.excAttr_ValueError.ga.bind (.ref x)]; refine wpAny_bind (wpAny_pure ?_)
  show wpAny _ _ (call (.builtin "BaseException.__getattribute__") [.ref x, .str "__class__" t0]) _ _ _
  refine wpAny_call (codeAny_call_builtin PySem.F.excAttr_ValueError.ga.plain PySem.F.entry_bexc_ga (@check_slot (model prog w) _ _ ⟨g0, a0, d0, t0 + 1, o0⟩ "BaseException.__getattribute__" "BaseException" "__getattribute__" (.ref x) [.str "__class__" t0] [] _ (by decide +kernel) (by decide +kernel) below (PySem.F.args_bexc_ga (.ref x) (.str "__class__" t0)) ?_))
  unfold Builtin.«object.__getattribute__»; refine wpAny_bind (wpAny_of_eq (a := ((Value.ref x : Value), [Value.str "__class__" t0])) (by first | rfl | (simp only [slotArgs]; rfl)) ?_)
  refine wpAny_bind (wpAny_pure (wpAny_bind (ty.at (wpAny_bind (fd.at ?_))))); show wpAny _ _ (holding [Value.builtin "object.__class__"] (call (.builtin "getset_descriptor.__get__") [.builtin "object.__class__", .ref x, .ref D]) >>= ret) _ _ _
  refine wpAny_bind (wpAny_holding (wpAny_call (class_get (s := ⟨g0, a0, d0, t0 + 1, o0⟩) X J Y.hm (wpAny_pure ?_)))); show wpAny _ _ (handedOut (.ref D)) _ _ _; rw [handedOut_of (v := .ref D) rfl]
  first | exact wpAny_pure (wpAny_pure h) | exact wpAny_pure h | exact wpAny_pure (wpAny_bind (wpAny_pure (wpAny_pure h)))
theorem kitx_err (T : OexC K D) (F : XfC K D) (Y : ErrI K D) : KitX K (.ref x) (.ref D) (fun h => ∃ od, InstAt h x ox D od) where
  ty := fun _ _ _ ⟨_, J⟩ => J.type
  it := fun _ _ X _ => by
    obtain ⟨_, _, _, _, _, _, _, _, _, _, _, _, _, _, _, at_, _⟩ := T.cls
    intro A' Q' E' s' k q
    exact PySem.ks_wpAny_isType_cls (k _ _ (X _ _ at_)) rfl q
  ne := fun h tp dd its n sl X htp => Bool.eq_false_iff.mpr fun q => by
    obtain ⟨_, _, _, _, _, _, _, _, _, _, _, _, _, _, _, at_, _⟩ := T.cls
    have e : D = tp := Value.ref.inj (beq_iff_eq.mp q)
    subst e
    have z := congrArg Obj.data (Option.some.inj ((X _ _ at_).symm.trans htp))
    cases z
  ca := fun X ⟨_, J⟩ k => exc_class T F Y X J k
theorem kit_own {C : Addr} {b : Bool} (h1 : subIn K (.ref D) (.ref C) = some b) (h2 : isClsIn K C = true) (h3 : typeIn K (.ref C) = some (.type "type")) (h4 : subIn K (.ref D) (.ref D) = some true) : kitOne K (.ref D) (.ref C) = some b := by
  unfold kitOne
  by_cases e : D = C
  · subst e
    rw [if_pos (beq_self_eq_true _), ← h1, h4]
  · rw [if_neg (show ¬ (Value.ref D == Value.ref C) = true from fun z => e (Value.ref.inj (beq_iff_eq.mp z)))]
    show (if ((clsIn K C).isSome && typeIn K (.ref C) == some (.type "type")) = true then subIn K (.ref D) (.ref C) else none) = some b
    rw [show (clsIn K C).isSome = true from h2, h3, if_pos (by rfl)]
    exact h1
theorem kit_val (h : subIn K (.ref D) (.type "ValueError") = some true) : kitOne K (.ref D) (.type "ValueError") = some true := by
  unfold kitOne
  rw [if_neg (show ¬ (Value.ref D == Value.type "ValueError") = true from fun z => by cases beq_iff_eq.mp z)]
  show (if kitMeta "ValueError" = true then subIn K (.ref D) (.type "ValueError") else none) = some true
  rw [if_pos (by decide +kernel)]
  exact h
theorem kit_nil : kitAny K (.ref D) [] = some false := rfl
theorem kit_cons {c : Value} {cs : List Value} {b : Bool} (h : kitOne K (.ref D) c = some false) (r : kitAny K (.ref D) cs = some b) : kitAny K (.ref D) (c :: cs) = some b := by
  unfold kitAny
  rw [h]
  exact r
end
/-- isinstance(e, C) and isinstance(e, (C1, ..)), e the caught error at a -/
def rIsXd (K : PySem.W.Frag) (cls : Value) (d : Option Addr) (a : Addr) : List V → Hp → VK → Prop := fun xs H Q => ∃ (D : Addr) (dd : Addr) (fs : List (Str × V)) (b : Bool), cls = .ref D ∧ d = some dd ∧ OexC K D ∧ XfC K D ∧ ErrI K D ∧ H dd = some (.xd fs) ∧
  ((∃ (c : V) (cv : Value), xs = [.ref a, c] ∧ (∀ u, RelV c u → u = cv) ∧ PySem.W.kitOne K (.ref D) cv = some b) ∨ (∃ (tp : Addr) (cs : List V) (ws : List Value), xs = [.ref a, .ref tp] ∧ H tp = some (.tup cs) ∧ (∀ us, Vals cs us → us = ws) ∧ PySem.W.kitAny K (.ref D) ws = some b)) ∧ Q (.bl b) H
theorem call_isX {X : Cx} {a : Addr} {oe : Obj} {cls : Value} {d : Option Addr} {pn : List (Addr × Obj)} (hz : Zc cls d oe) (hf : ∃ vs, oe.data = .fields vs) : CallR (X.suite a ((a, oe) :: pn)) (.builtin "isinstance") (rIsXd X.K cls d a) := by
  intro pins s σ H xs us Q I r h
  obtain ⟨D, dd, fs, b, rfl, rfl, T, F, Y, hd, way, q⟩ := h
  obtain ⟨hget, _⟩ := I.pin (a, oe) (List.mem_append.mpr (.inl List.mem_cons_self))
  obtain ⟨vs, hv⟩ := hf
  obtain ⟨mA, hns, _⟩ := (show ObjOk X.prog X.w H s.heap dd (.xd fs) from I.hok dd _ hd)
  obtain ⟨od, ho, _⟩ := lookIn_ns hns
  have J : ∃ od, PySem.W.InstAt s.heap a oe D od := ⟨some od, hget, hz.1, by unfold PySem.W.notCls; rw [hv] <;> rfl, by rw [hz.2]; exact ho⟩
  have Z := kitx_err (x := a) (ox := oe) T F Y
  rcases way with ⟨c, cv, rfl, hc, e⟩ | ⟨tp, cs, ws, rfl, ht, hw, e⟩
  · obtain ⟨u1, u2, rfl, r1, r2⟩ := vals2 r
    cases r1
    rw [hc _ r2]
    exact PySem.W.kia_one Z I.kIn J e (fun z => nomatch z) fun tk => ⟨.bl b, H, I.tok tk, rfl, q⟩
  · obtain ⟨u1, u2, rfl, r1, r2⟩ := vals2 r
    cases r1
    cases r2
    obtain ⟨_, its, rv, o, h1, h2, n, h3⟩ := (show ObjOk X.prog X.w H s.heap tp (.tup cs) from I.hok tp _ ht)
    rw [hw _ rv] at h3
    obtain ⟨oc, od', dt, sl⟩ := o
    simp only at h2 h3
    subst h2 h3
    exact PySem.W.kia_tup Z I.kIn J h1 e (fun z => nomatch z) fun tk => ⟨.bl b, H, I.tok tk, rfl, q⟩


/-! ### attributes by their places -/
theorem lk_ix {fs : List (Str × V)} {f : Str} {v : V} (nd : (fs.map (·.1)).Nodup) (i : Nat) (h : fs[i]? = some (f, v)) : fs.lookup f = some v := by
  induction fs generalizing i with
  | nil => simp at h
  | cons p r ih =>
    obtain ⟨g, x⟩ := p
    rw [List.map_cons, List.nodup_cons] at nd
    cases i with
    | zero =>
      cases h
      have hb : (f == f) = true := beq_self_eq_true f
      simp only [List.lookup, hb]
    | succ i =>
      rw [List.getElem?_cons_succ] at h
      have hm : f ∈ r.map (·.1) := List.mem_map.mpr ⟨(f, v), List.mem_of_getElem? h, rfl⟩
      have hb : (f == g) = false := beq_eq_false_iff_ne.mpr fun e => nd.1 (e ▸ hm)
      simp only [List.lookup, hb]
      exact ih nd.2 i h
theorem lk_none {fs : List (Str × V)} {f : Str} (h : f ∉ fs.map (·.1)) : fs.lookup f = none := by
  induction fs with
  | nil => rfl
  | cons p r ih =>
    obtain ⟨g, x⟩ := p
    rw [List.map_cons, List.mem_cons, not_or] at h
    have hb : (f == g) = false := beq_eq_false_iff_ne.mpr h.1
    simp only [List.lookup, hb]
    exact ih h.2
theorem pf_ix {fs : List (Str × V)} {f : Str} {v x : V} (nd : (fs.map (·.1)).Nodup) (i : Nat) (h : fs[i]? = some (f, x)) : putF f v fs = fs.set i (f, v) := by
  induction fs generalizing i with
  | nil => simp at h
  | cons p r ih =>
    obtain ⟨g, y⟩ := p
    rw [List.map_cons, List.nodup_cons] at nd
    cases i with
    | zero =>
      cases h
      show (if f = f then _ else _) = _
      rw [if_pos rfl]
      rfl
    | succ i =>
      rw [List.getElem?_cons_succ] at h
      have hm : f ∈ r.map (·.1) := List.mem_map.mpr ⟨(f, x), List.mem_of_getElem? h, rfl⟩
      show (if g = f then _ else _) = _
      rw [if_neg (show ¬ g = f from fun e => nd.1 (e ▸ hm)), ih nd.2 i h]
      rfl
theorem pf_new {fs : List (Str × V)} {f : Str} {v : V} (h : f ∉ fs.map (·.1)) : putF f v fs = fs ++ [(f, v)] := by
  induction fs with
  | nil => rfl
  | cons p r ih =>
    obtain ⟨g, y⟩ := p
    rw [List.map_cons, List.mem_cons, not_or] at h
    show (if g = f then _ else _) = _
    rw [if_neg (show ¬ g = f from fun e => h.1 e.symm), ih h.2]
    rfl


def okInt : V → Prop := fun v => ∃ i : Int, v = .int i ∧ (0 ≤ i ∧ i < 100000)
theorem okInt_log {i : Int} (h : 0 ≤ i ∧ i < 100000) : i.natAbs.log2 < 1920 := by
  by_cases z : i.natAbs = 0
  · rw [z]; decide
  · exact (Nat.log2_lt z).mpr (Nat.lt_of_lt_of_le (show i.natAbs < 2 ^ 17 by omega) (Nat.pow_le_pow_right (by decide) (by decide)))
theorem okInt_len {i : Int} (a : Str) (h : 0 ≤ i ∧ i < 100000) (ha : decide (a.length ≤ 1000) = true) : (a ++ Str.ofString (toString i)).length ≤ sizeLine := by
  obtain ⟨n, rfl⟩ : ∃ n : Nat, i = (n : Int) := ⟨i.toNat, by omega⟩
  have h1 := (num_asc n (by omega)).2
  have h2 : a.length ≤ 1000 := of_decide_eq_true ha
  rw [app_len, sizeLine_eq]
  omega
def Bd (n : Int) : Prop := 0 ≤ n ∧ n < 65536

theorem iteS {a : Str} {A B : Prop} (h : A) : if decide (V.str a = V.str a) = true then A else B := by
  rw [decide_eq_true rfl]
  exact iteT h
theorem iteN {a b : Str} {A B : Prop} (n : a ≠ b) (h : B) : if decide (V.str a = V.str b) = true then A else B := by
  rw [decide_eq_false fun z => n (V.str.inj z)]
  exact iteF h
theorem str_eq {a b : Str} (z : decide (V.str a = V.str b) = true) : a = b := V.str.inj (of_decide_eq_true z)
theorem strs_flat (ts : List Str) : (ts.map V.str).all flatV = true := by
  rw [List.all_eq_true]
  intro v m
  obtain ⟨x, _, rfl⟩ := List.mem_map.mp m
  rfl
theorem small_str {k : Int} (h0 : 0 ≤ k) (h1 : k < 1000) : (Str.ofString (toString k)).length ≤ 6 ∧ k.natAbs.log2 < 1920 := by
  obtain ⟨m, rfl⟩ := Int.eq_ofNat_of_zero_le h0
  constructor
  · have e : (Str.ofString (toString ((m : Nat) : Int))).cps.toList = TL.numL m := TL.tl_num m
    show (Str.ofString (toString ((m : Nat) : Int))).cps.toList.length ≤ 6
    rw [e]
    exact TL.numL_len (by decide) (by omega)
  · have : m.log2 ≤ 1919 := PySem.W.mg_log (Nat.lt_of_lt_of_le (show m < 1000 by omega) (by decide +kernel))
    show m.log2 < 1920
    omega
def NumL (x : Str) (r : V) : Prop := (∃ n : Nat, n ≤ 65535 ∧ x.cps.toList = TL.numL n ∧ r = .int n) ∨ ((∀ n : Nat, n ≤ 65535 → x.cps.toList ≠ TL.numL n) ∧ r = .int (-1))
def cuF (wl z1 z2 : Addr) (i : Int) : List (Str × V) := [("_words", .ref wl), ("options", .ref z1), ("variables", .ref z2), ("sees", .bl false), ("at", .int i)]
theorem cuNd {wl z1 z2 : Addr} {i : Int} : ((cuF wl z1 z2 i).map (·.1)).Nodup := by
  show (["_words", "options", "variables", "sees", "at"] : List Str).Nodup
  decide +kernel
/-- a cursor at its place -/
def CuS (C : Addr) (H : Hp) (a wl : Addr) (ws : List Str) (i : Nat) : Prop := ∃ dx z1 z2, H a = some (.ins C dx (cuF wl z1 z2 i)) ∧ H wl = some (.lst (ws.map V.str))
theorem CuS.same {C : Addr} {H H' : Hp} {a wl : Addr} {ws : List Str} {i : Nat} (h : CuS C H a wl ws i) (s : Same H H') : CuS C H' a wl ws i := by
  obtain ⟨dx, z1, z2, e, f⟩ := h
  exact ⟨dx, z1, z2, s _ _ e, s _ _ f⟩
def hereV (ws : List Str) (i : Nat) : V := match ws[i]? with
  | some x => .str x
  | none => .non
inductive Deed where
  | word (w : Str)
  | num (l m : Int)
  | name (ns : List Str)
  | fresh (ns : List Str)
/-- what a deed gives at a word that fits -/
def Fit : Deed → Str → V → Prop
  | .word w, x, v => x = w ∧ v = .non
  | .num l m, x, v => ∃ n : Nat, n ≤ 65535 ∧ x.cps.toList = TL.numL n ∧ l ≤ (n : Int) ∧ (n : Int) ≤ m ∧ v = .int n
  | .name ns, x, v => x ∈ ns ∧ v = .str x
  | .fresh ns, x, v => NameP x ∧ x ∉ ns ∧ v = .str x
def Wds (ws : List Str) : Prop := ∀ x ∈ ws, Asc x ∧ x.length ≤ 100

theorem none_back {H H' : Hp} {d : Addr} (s : Same H H') (h : H' d = none) : H d = none := by
  cases e : H d with
  | none => rfl
  | some o => rw [s _ _ e] at h; cases h
theorem cu_no {wl z1 z2 : Addr} {i : Int} {m : Str} (h : m ∉ (["_words", "options", "variables", "sees", "at"] : List Str)) : (cuF wl z1 z2 i).lookup m = none := lk_none h
theorem cu_meths : ("_pass_if" : Str) ∉ (["_words", "options", "variables", "sees", "at"] : List Str) ∧ ("take_word" : Str) ∉ (["_words", "options", "variables", "sees", "at"] : List Str) ∧ ("take_number" : Str) ∉ (["_words", "options", "variables", "sees", "at"] : List Str) ∧ ("take_name" : Str) ∉ (["_words", "options", "variables", "sees", "at"] : List Str) ∧ ("take_new_name" : Str) ∉ (["_words", "options", "variables", "sees", "at"] : List Str) := by decide +kernel
theorem here_scal {ws : List Str} {i : Nat} {w : Str} : scal (hereV ws i) (.str w) = true := by
  unfold hereV
  split <;> rfl
/-- what a deed comes to: passed, or refused at the place -/
def DeedK (C B : Addr) (H : Hp) (a wl : Addr) (ws : List Str) (i : Nat) (dd : Deed) (Q : VK) (E : XK) : Prop :=
  (∀ x v, ws[i]? = some x → Fit dd x v → ∀ H', But a H H' → CuS C H' a wl ws (i + 1) → Q v H') ∧
  ((∀ x v, ws[i]? = some x → ¬ Fit dd x v) → ∀ d H', Same H H' → H d = none → H' d = some (.xd [("at", .int (i : Nat))]) → E (.ref B) (some d) H')

theorem dp_strs {K : PySem.W.Frag} {H : Hp} : ∀ ws : List Str, DpAll K H (ws.map V.str) (ws.map PyData.str)
  | [] => .nil
  | w :: r => .cons (.str w) (dp_strs r)
theorem asc_ok {x : Str} (h : Asc x) : PyData.strOk x = true := by
  unfold PyData.strOk
  rw [Array.all_eq_true_iff_forall_mem]
  intro c m
  have := h c (Array.mem_toList_iff.mpr m)
  simp
  omega
theorem d_room {A : Around} {k : Nat} (h : Room k A) : A.units + 1 < cLine := by
  have := h.un
  omega
theorem eq_room {A : Around} {k : Nat} (h : Room k A) : A.units + 64 < cLine := by
  have := h.un
  omega
theorem strs_lay {ns : List Str} (h : ∀ x ∈ ns, Asc x) (l : ns.length ≤ 1000) : Lay 1 (.list (ns.map PyData.str)) := lay_list (n := 0) (by rw [List.length_map]; omega) fun d m => by
  obtain ⟨w, mw, rfl⟩ := List.mem_map.mp m
  exact lay_str (asc_ok (h w mw))
def hereD (ws : List Str) (i : Nat) : PyData := match ws[i]? with
  | some x => .str x
  | none => .none
theorem here_da {H : Hp} {ws : List Str} {i : Nat} : Da H (hereV ws i) (hereD ws i) := by
  unfold hereV hereD
  split
  · exact .str _
  · exact .non
theorem here_ok {ws : List Str} {i : Nat} : (hereD ws i).depth < 8 ∧ wide (hereD ws i) = true := by
  unfold hereD
  split
  · exact ⟨by simp [PyData.depth], by simp [wide]⟩
  · exact ⟨by simp [PyData.depth], by simp [wide]⟩
theorem here_cases {ws : List Str} {i : Nat} (h : Wds ws) : hereV ws i = .non ∨ ∃ x, hereV ws i = .str x ∧ x.length ≤ 100 ∧ Asc x := by
  unfold hereV
  split
  · rename_i x e
    exact .inr ⟨x, rfl, (h x (List.mem_of_getElem? e)).2, (h x (List.mem_of_getElem? e)).1⟩
  · exact .inl rfl
theorem here_some {ws : List Str} {i : Nat} {x : Str} (h : hereV ws i = .str x) : ws[i]? = some x := by
  unfold hereV at h
  split at h
  · rename_i y e
    rw [e, V.str.inj h]
  · cases h
theorem here_of {ws : List Str} {i : Nat} {x : Str} (h : ws[i]? = some x) : hereV ws i = .str x := by
  unfold hereV
  rw [h]
/-- the law's own word of a deed -/
def DueR (H H2 : Hp) (hv : V) (dd : Deed) (dv : V) : Prop := (∃ x v pd, hv = .str x ∧ Fit dd x v ∧ dv = .ref pd ∧ H2 pd = some (.tup [.str "passed", v])) ∨ ((∀ x v, hv = .str x → ¬ Fit dd x v) ∧ dv = .non)
theorem due_both {H : Hp} {hv : V} {dd : Deed} {Q : VK} (h : ∀ dv H2, Same H H2 → DueR H H2 hv dd dv → Q dv H2) : (∀ x v, hv = .str x → Fit dd x v → ∀ p H', Same H H' → H' p = some (.tup [.str "passed", v]) → Q (.ref p) H') ∧ ((∀ x v, hv = .str x → ¬ Fit dd x v) → ∀ H', Same H H' → Q .non H') :=
  ⟨fun x v e f p H' s g => h _ _ s (.inl ⟨x, v, p, e, f, rfl, g⟩), fun nf H' s => h _ _ s (.inr ⟨nf, rfl⟩)⟩
/-- the program's -/
def DoneR (C : Addr) (H H2 : Hp) (a wl : Addr) (ws : List Str) (i : Nat) (dd : Deed) (pa : Addr) : Prop := (∃ x v, ws[i]? = some x ∧ Fit dd x v ∧ But a H H2 ∧ CuS C H2 a wl ws (i + 1) ∧ H2 pa = some (.tup [.str "passed", v])) ∨ ((∀ x v, ws[i]? = some x → ¬ Fit dd x v) ∧ Same H H2 ∧ H2 pa = some (.tup [.str "refused", .int (i : Nat), .bl true]))
theorem done_both {C : Addr} {H : Hp} {a wl : Addr} {ws : List Str} {i : Nat} {dd : Deed} {Q : VK} (h : ∀ pa H2, DoneR C H H2 a wl ws i dd pa → Q (.ref pa) H2) : (∀ x v, ws[i]? = some x → Fit dd x v → ∀ p H', But a H H' → CuS C H' a wl ws (i + 1) → H' p = some (.tup [.str "passed", v]) → Q (.ref p) H') ∧
  ((∀ x v, ws[i]? = some x → ¬ Fit dd x v) → ∀ p H', Same H H' → H' p = some (.tup [.str "refused", .int (i : Nat), .bl true]) → Q (.ref p) H') :=
  ⟨fun x v e f p H' b c g => h _ _ (.inl ⟨x, v, e, f, b, c, g⟩), fun nf p H' s g => h _ _ (.inr ⟨nf, s, g⟩)⟩
theorem fit_uniq {dd : Deed} {x : Str} {v w : V} (a : Fit dd x v) (b : Fit dd x w) : v = w := by
  cases dd with
  | word => exact a.2.trans b.2.symm
  | num =>
    obtain ⟨n, _, e, _, _, r⟩ := a
    obtain ⟨m, _, g, _, _, t⟩ := b
    rw [r, t, TL.numL_inj (e.symm.trans g)]
  | name => exact a.2.trans b.2.symm
  | fresh => exact a.2.2.trans b.2.2.symm
theorem fit_da {dd : Deed} {x : Str} {v : V} {H : Hp} (a : Fit dd x v) : ∃ D : PyData, Da H v D ∧ D.depth = 0 ∧ wide D = true := by
  cases dd with
  | word => rw [a.2]; exact ⟨_, .non, by simp [PyData.depth], by simp [wide]⟩
  | num =>
    obtain ⟨n, _, e, _, _, r⟩ := a
    rw [r]
    exact ⟨_, .int _, by simp [PyData.depth], by simp [wide]⟩
  | name => rw [a.2]; exact ⟨_, .str _, by simp [PyData.depth], by simp [wide]⟩
  | fresh => rw [a.2.2]; exact ⟨_, .str _, by simp [PyData.depth], by simp [wide]⟩
theorem ixN_zero {n : Nat} (h : 0 < n) : ixN n 0 = some 0 := by
  unfold ixN
  rw [if_pos (Int.le_refl 0), if_pos (by omega)]
  rfl

/-! ### a call with keywords that may raise -/
def tCallNT (n m : Nat) (sp : Sp) (gV : List V → List V → List V) (E : L2.St → XK) (t tk : TA) : TE := fun σ H Q => t σ H fun vs H1 => tk σ H1 fun zs H2 => vs.length = n ∧ zs.length = m ∧ sp (gV vs zs) H2 Q (E σ)
section
variable {X : Cx} {CX : CXT} {k n : Nat} {f : Addr} {fd : FuncData} {ps ks : List Str} {sp : Sp} {E : L2.St → XK} {x : Str} {p pos : Pos} {e : Expr} {es : List Expr} {kws : List Keyword} {t tk : TA} {g : List Value → List Value → List Value} {gV : List V → List V → List V}
theorem run_fnNT {pins : List (Addr × Obj)} {σ : L2.St} {H : Hp} {s : Shared} {Q : VK} {us ws : List Value} {vs zs : List V} (F : FnOk X.prog X.w X.K X.mg X.base CX k f fd ps sp) (hr : Room k X.A) (hb : KBn X.K fd ps n ks g gV) (hx : PassesAt CX X σ (E σ))
    (I : Inv X pins σ H s) (r : Vals vs us) (rz : Vals zs ws) (l1 : vs.length = n) (l2 : zs.length = ks.length) (h : sp (gV vs zs) H Q (E σ)) : wpAny (model X.prog X.w) X.A (call (.ref f) us (ks.zip ws)) (EP X pins σ Q) X.xe s := by
  have r2 := hb.rel r rz
  refine wpAny_call (codeAny_mono (F.run X.A X.stack s H ⟨us, ks.zip ws⟩ (g us ws) (gV vs zs) Q (E σ) hr I.env0 (hb.to s us ws I.kIn (r.length.symm.trans l1) (rz.length.symm.trans l2)) r2 h) fun r s' hq => ?_)
  cases r with
  | error e => exact hx pins H s e s' I hq
  | ok fl =>
    cases fl with
    | ret u => exact I.after hq
    | next => exact False.elim hq
    | brk => exact False.elim hq
    | cont => exact False.elim hq
theorem pe_callNT (F : FnOk X.prog X.w X.K X.mg X.base CX k f fd ps sp) (hr : Room k X.A) (hg : Gl X x) (hm : X.mg x = some (.ref f)) (hk : PySem.W.keepIn X.K (.ref f) = true) (hb : KBn X.K fd ps n ks g gV) (hx : ∀ σ, PassesAt CX X σ (E σ))
    (ha : PA X (e :: es) t) (hkw : PK X kws tk) (hall : (backToKw pos (keywordEach kws X.env)).all (·.1.isSome) = true := by rfl) (hks : (backToKw pos (keywordEach kws X.env)).filterMap (·.1) = ks := by rfl)
    (hdb : (x == ("__debug__" : Str)) = false := by decide) (he : starEach (e :: es) X.env = (false, eval e X.env) :: starEach es X.env := by rfl)
    (hpl : ((backTo pos (starEach (e :: es) X.env)).any (·.1) || (backToKw pos (keywordEach kws X.env)).any (·.1.isNone)) = false := by rfl) :
    PE X (.Call (.Name x p) (e :: es) kws pos) (tCallNT n ks.length sp gV E t tk) := by
  refine ⟨fun pins s σ H Q I h => ?_⟩
  refine wpAny_Call_Name_kw (ld_glob I hg hm ?_ hdb)
  refine PySem.W.callWith_KW (h₀ := X.base) I.ok.mod.kin hk hall (thn (ha.run pos pins s σ H _ I h) fun us s1 ⟨vs, H1, I1, r, q⟩ => ?_) hpl he
  refine thn (hkw.run pos pins s1 σ H1 _ I1 q) fun ws s2 ⟨zs, H2, I2, rz, l1, l2, q2⟩ => ⟨I2.kIn, ?_⟩
  rw [hks]
  exact run_fnNT F hr hb (hx σ) I2 r rz l1 l2 q2
end


/-! ### expressions -/
def opL : List Str := ["+", "-", "*", "/", "mod", "<", "="]
/-- an expression -/
inductive Ex where
  | num (n : Int) | var (x : Str) | long | view (e : Ex) | pick (x : Str) (a b : Ex) | op (s : Str) (a b : Ex)
def Ex.deep : Ex → Nat
  | .num _ => 1 | .var _ => 1 | .long => 1 | .view e => e.deep + 1 | .pick _ a b => max a.deep b.deep + 1 | .op _ a b => max a.deep b.deep + 1
def Ex.Wf (ns ps : List Str) : Ex → Prop
  | .num n => 0 ≤ n ∧ n < 65536
  | .var x => x ∈ ns
  | .long => True
  | .view e => e.Wf ns ps
  | .pick x a b => x ∈ ps ∧ a.Wf ns ps ∧ b.Wf ns ps
  | .op s a b => s ∈ opL ∧ a.Wf ns ps ∧ b.Wf ns ps
/-- it stands at v -/
inductive Ev (H : Hp) : V → Ex → Prop
  | num {a : Addr} {n : Int} : H a = some (.tup [.str "number", .int n]) → Ev H (.ref a) (.num n)
  | var {a : Addr} {x : Str} : H a = some (.tup [.str "variable", .str x]) → Ev H (.ref a) (.var x)
  | long {a : Addr} : H a = some (.tup [.str "long"]) → Ev H (.ref a) .long
  | view {a : Addr} {v : V} {e : Ex} : H a = some (.tup [.str "view", v]) → Ev H v e → Ev H (.ref a) (.view e)
  | pick {a : Addr} {x : Str} {v w : V} {e f : Ex} : H a = some (.tup [.str "pick", .str x, v, w]) → Ev H v e → Ev H w f → Ev H (.ref a) (.pick x e f)
  | op {a : Addr} {s : Str} {v w : V} {e f : Ex} : H a = some (.tup [.str s, v, w]) → Ev H v e → Ev H w f → Ev H (.ref a) (.op s e f)
theorem Ev.keep {H H' : Hp} (k : KeepT H H') : ∀ {v : V} {e : Ex}, Ev H v e → Ev H' v e
  | _, _, .num h => .num (k _ _ h)
  | _, _, .var h => .var (k _ _ h)
  | _, _, .long h => .long (k _ _ h)
  | _, _, .view h a => .view (k _ _ h) (Ev.keep k a)
  | _, _, .pick h a b => .pick (k _ _ h) (Ev.keep k a) (Ev.keep k b)
  | _, _, .op h a b => .op (k _ _ h) (Ev.keep k a) (Ev.keep k b)
theorem opL_ne {s : Str} (h : s ∈ opL) : s ≠ "number" ∧ s ≠ "variable" ∧ s ≠ "long" ∧ s ≠ "view" ∧ s ≠ "pick" := by
  have : opL.all (fun s => decide (s ≠ "number" ∧ s ≠ "variable" ∧ s ≠ "long" ∧ s ≠ "view" ∧ s ≠ "pick")) = true := by decide +kernel
  exact of_decide_eq_true (List.all_eq_true.mp this s h)
theorem num_ne : ("variable" : Str) ≠ "number" ∧ ("long" : Str) ≠ "number" ∧ ("view" : Str) ≠ "number" ∧ ("pick" : Str) ≠ "number" ∧ ("long" : Str) ≠ "variable" ∧ ("view" : Str) ≠ "variable" ∧ ("pick" : Str) ≠ "variable" ∧ ("view" : Str) ≠ "long" ∧ ("pick" : Str) ≠ "long" ∧ ("pick" : Str) ≠ "view" := by decide +kernel
theorem str_ne {a b : Str} (h : a ≠ b) : ¬ decide (V.str a = V.str b) = true := fun z => h (V.str.inj (of_decide_eq_true z))


/-! ### a cursor with options, variables and sight -/
structure CuI where
  a : Addr
  wl : Addr
  z1 : Addr
  z2 : Addr
  ops : List Str
  vars : List Str
  ws : List Str
  se : Bool
def cuG (wl z1 z2 : Addr) (se : Bool) (i : Int) : List (Str × V) := [("_words", .ref wl), ("options", .ref z1), ("variables", .ref z2), ("sees", .bl se), ("at", .int i)]
theorem cgNd {wl z1 z2 : Addr} {se : Bool} {i : Int} : ((cuG wl z1 z2 se i).map (·.1)).Nodup := by
  show (["_words", "options", "variables", "sees", "at"] : List Str).Nodup
  decide +kernel
theorem cg_no {wl z1 z2 : Addr} {se : Bool} {i : Int} {m : Str} (h : m ∉ (["_words", "options", "variables", "sees", "at"] : List Str)) : (cuG wl z1 z2 se i).lookup m = none := lk_none h
/-- a cursor at its place -/
def CuX (C : Addr) (H : Hp) (c : CuI) (i : Nat) : Prop := i ≤ c.ws.length ∧ (∃ dx, H c.a = some (.ins C dx (cuG c.wl c.z1 c.z2 c.se i))) ∧ H c.wl = some (.lst (c.ws.map V.str)) ∧ H c.z1 = some (.tup (c.ops.map V.str)) ∧ H c.z2 = some (.tup (c.vars.map V.str))
theorem CuX.same {C : Addr} {H H' : Hp} {c : CuI} {i : Nat} (h : CuX C H c i) (s : Same H H') : CuX C H' c i := by
  obtain ⟨l, ⟨dx, e⟩, f, g, k⟩ := h
  exact ⟨l, ⟨dx, s _ _ e⟩, s _ _ f, s _ _ g, s _ _ k⟩
theorem CuX.keepT {C : Addr} {H H' : Hp} {c : CuI} {i : Nat} (h : CuX C H c i) (b : But c.a H H') : KeepT H H' := by
  obtain ⟨l, ⟨dx, e⟩, _⟩ := h
  exact fun z xs g => b z _ (fun y => by rw [y, e] at g; cases g) g
theorem CuX.butd {C : Addr} {H H' : Hp} {c : CuI} {i : Nat} {p : Addr} (h : CuX C H c i) (b : But p H H') (n1 : c.a ≠ p) (n2 : c.wl ≠ p) (n3 : c.z1 ≠ p) (n4 : c.z2 ≠ p) : CuX C H' c i := by
  obtain ⟨l, ⟨dx, e⟩, f, g, k⟩ := h
  exact ⟨l, ⟨dx, b _ _ n1 e⟩, b _ _ n2 f, b _ _ n3 g, b _ _ n4 k⟩
/-- what a deed comes to: passed, or refused at the place -/
def DeedX (C B : Addr) (H : Hp) (c : CuI) (i : Nat) (dd : Deed) (Q : VK) (E : XK) : Prop :=
  (∀ x v, c.ws[i]? = some x → Fit dd x v → ∀ H', But c.a H H' → CuX C H' c (i + 1) → Q v H') ∧
  ((∀ x v, c.ws[i]? = some x → ¬ Fit dd x v) → ∀ d H', Same H H' → H d = none → H' d = some (.xd [("at", .int (i : Nat))]) → E (.ref B) (some d) H')
theorem here_lt {ws : List Str} {i : Nat} {x : Str} (h : ws[i]? = some x) : i + 1 ≤ ws.length := by
  rcases Nat.lt_or_ge i ws.length with z | z
  · exact z
  · rw [List.getElem?_eq_none z] at h
    cases h

section
open PySem.AutoSeq1 PySem.MeetsSeq PySem.MeetsSeq2 PySem.MeetsSeq3 PySem.SeqAt
/-- list.extend by a tuple of any make -/
theorem ext_list_tup (l : Addr) (items : Array Value) (n : Nat) (b : Addr) (items2 : Array Value) (n2 : Nat) (od : Option Addr) (osl : Array (Option Value)) (hs0 : ¬(!items.isEmpty && Builtin.List.listTooLong (items.size + items2.size)) = true) (hs1 : items.size ≤ sizeLine) (hs2 : items.size + items2.size ≤ sizeLine + 1) :
    Meets (Builtin.«list.extend» ⟨[.ref l, .ref b], []⟩) (fun _ R s => s.heap.get? l = some { cls := .type "list", dict := none, data := .seq items n, slots := #[] } ∧ s.heap.get? b = some { cls := .type "tuple", dict := od, data := .seq items2 n2, slots := osl } ∧ R (.ok (.ret Value.none)) { s with heap := s.heap.update l (Obj.mapSeq fun x => x ++ items2), toks := s.toks }) :=
  .of_wp fun prog w A R s h => by
    obtain ⟨hp, g, d, tk, os⟩ := s; obtain ⟨hl, hb, h⟩ := h; have f1 := PySem.AutoSeq1.idx_int; have f2 := PySem.AutoSeq1.sub_tuple_tuple; have f3 := PySem.AutoSeq1.sub_list_list; have f4 := PySem.AutoSeq1.sub_tuple_list; have f5 := PySem.AutoSeq1.sub_list_tuple;
    have hz' : (items ++ items2).size ≤ sizeLine + 1 := by rw [Array.size_append]; exact hs2
    wp_walk using (wpAny_updateSeq hl rfl (hz := hs1) (_hz' := hz')), wpAny_loadPart' hl, wpAny_loadPart' hb; exact ⟨_, rfl, h⟩
end
section
variable {X : Cx}
def rExtT (K : PySem.W.Frag) : V → List V → Hp → VK → Prop := fun x vs H Q => ∃ l b xs zs, x = .ref l ∧ vs = [.ref b] ∧ H l = some (.lst xs) ∧ SqT K H b zs ∧ xs.length + zs.length ≤ sizeLine ∧ Q .non (upd H l (.lst (xs ++ zs)))
theorem mt_extendT : MtM X "list.extend" (rExtT X.K) := by
  intro pins s σ H x vs v us Q I rx rv h
  obtain ⟨l, b, xs, zs, rfl, rfl, hH, hB, hz, q⟩ := h
  cases rx
  obtain ⟨u, rfl, ru⟩ := rv.one
  cases ru
  obtain ⟨z, its, n, r, hl, e⟩ := I.lstM hH
  obtain ⟨its2, r2, ⟨⟨oc, od, oda, osl⟩, g1, g2, n2, g3⟩, hl2⟩ := I.tuple hB
  simp only at g2 g3
  subst g2 g3
  have e2 := r2.length
  have e1 := r.length
  have hsz : its.toArray.size + its2.toArray.size ≤ sizeLine := by rw [List.size_toArray, List.size_toArray]; omega
  have hlong : ¬ (!its.toArray.isEmpty && Builtin.List.listTooLong (its.toArray.size + its2.toArray.size)) = true := by
    rw [notLongL hsz, Bool.and_false]
    exact Bool.false_ne_true
  refine call_meets F.slot_list_extend ⟨_, e, rfl⟩ F.entry_list_extend (F.args_list_extend_2 _ _)
    (ext_list_tup l its.toArray n b its2.toArray n2 od osl hlong (by rw [List.size_toArray]; omega) (by omega)) ⟨e, g1, ?_⟩
  refine ⟨.non, _, I.lset (its' := its ++ its2) hH e (by simp) (r.append r2) ?_, rfl, q⟩
  rw [List.length_append]
  omega
end


/-! ### reading an expression -/
inductive RdR where
  | ok (e : Ex) (j : Nat)
  | bad (j : Nat)
def numOf (x : Str) : Option Nat := (List.range 65536).find? fun n => decide (x.cps.toList = TL.numL n)
theorem numOf_some {x : Str} {n : Nat} (h : n ≤ 65535) (e : x.cps.toList = TL.numL n) : numOf x = some n := by
  unfold numOf
  cases f : (List.range 65536).find? (fun n => decide (x.cps.toList = TL.numL n)) with
  | none =>
    have := List.find?_eq_none.mp f n (List.mem_range.mpr (by omega))
    exact absurd (decide_eq_true e) this
  | some m =>
    have t : (fun n => decide (x.cps.toList = TL.numL n)) m = true := List.find?_some (p := fun n => decide (x.cps.toList = TL.numL n)) f
    rw [TL.numL_inj (e.symm.trans (of_decide_eq_true t))]
theorem numOf_none {x : Str} (h : ∀ n : Nat, n ≤ 65535 → x.cps.toList ≠ TL.numL n) : numOf x = none := by
  unfold numOf
  exact List.find?_eq_none.mpr fun n m z => h n (by have := List.mem_range.mp m; omega) (of_decide_eq_true z)
theorem numOf_of {x : Str} {n : Nat} (h : numOf x = some n) : n ≤ 65535 ∧ x.cps.toList = TL.numL n := by
  unfold numOf at h
  have := List.mem_range.mp (List.mem_of_find?_eq_some h)
  have t : (fun n => decide (x.cps.toList = TL.numL n)) n = true := List.find?_some (p := fun n => decide (x.cps.toList = TL.numL n)) h
  exact ⟨by omega, of_decide_eq_true t⟩
def opens (se po : Bool) (room : Nat) : List Str := (if se = true then (["long"] : List Str) else []) ++ (if 1 < room then opL ++ (if po = true then (["pick"] : List Str) else []) ++ (if se = true then (["view"] : List Str) else []) else [])
def twoR (f : Ex → Ex → Ex) (g : Nat → RdR) (i : Nat) : RdR := match g i with
  | .bad j => .bad j
  | .ok a j => match g j with
    | .bad j' => .bad j'
    | .ok b j' => .ok (f a b) j'
def oneR (f : Ex → Ex) (g : Nat → RdR) (i : Nat) : RdR := match g i with
  | .bad j => .bad j
  | .ok a j => .ok (f a) j
def partsR (c : CuI) (g : Nat → RdR) (x : Str) (i : Nat) : RdR :=
  if x = "long" then .ok .long i else if x = "view" then oneR .view g i
  else if x = "pick" then (match c.ws[i]? with
    | none => .bad i
    | some o => if o ∈ c.ops then twoR (.pick o) g (i + 1) else .bad i)
  else twoR (.op x) g i
def readM (c : CuI) : Nat → Nat → RdR
  | 0, i => .bad i
  | k + 1, i => match c.ws[i]? with
    | none => .bad i
    | some x => if x ∈ c.vars then .ok (.var x) (i + 1) else if x ∈ opens c.se (!c.ops.isEmpty) (k + 1) then partsR c (readM c k) x (i + 1)
      else match numOf x with
        | some n => .ok (.num n) (i + 1)
        | none => .bad i
/-- what a reading comes to -/
def RdK (C B : Addr) (H : Hp) (c : CuI) (r : RdR) (Q : VK) (E : XK) : Prop := match r with
  | .ok e j => ∀ v H', But c.a H H' → Ev H' v e → CuX C H' c j → Q v H'
  | .bad j => ∀ d H', But c.a H H' → H' d = some (.xd [("at", .int (j : Nat))]) → E (.ref B) (some d) H'
theorem RdK.mono {C B : Addr} {H H1 : Hp} {c : CuI} {r : RdR} {Q : VK} {E : XK} (b : But c.a H H1) (h : RdK C B H c r Q E) : RdK C B H1 c r Q E := by
  cases r with
  | ok e j => exact fun v H' b1 ev cu => h v H' (b.trans b1) ev cu
  | bad j => exact fun d H' b1 hd => h d H' (b.trans b1) hd
/-! ### the words of an expression -/
def Ex.rows : Ex → Nat → List (Str × Nat)
  | .num n, l => [(Str.ofString (toString n), l)]
  | .var x, l => [(x, l)]
  | .long, l => [("long", l)]
  | .view e, l => ("view", l + 1) :: e.rows (l + 1)
  | .pick x a b, l => ("pick", l + 1) :: (x, l) :: (a.rows (l + 1) ++ b.rows (l + 1))
  | .op s a b, l => (s, l + 1) :: (a.rows (l + 1) ++ b.rows (l + 1))
def Ex.words : Ex → List Str
  | .num n => [Str.ofString (toString n)]
  | .var x => [x]
  | .long => ["long"]
  | .view e => "view" :: e.words
  | .pick x a b => "pick" :: x :: (a.words ++ b.words)
  | .op s a b => s :: (a.words ++ b.words)
theorem rows_words : ∀ (e : Ex) (l : Nat), (e.rows l).map (·.1) = e.words
  | .num _, _ => rfl
  | .var _, _ => rfl
  | .long, _ => rfl
  | .view e, l => by
    show ("view" : Str) :: (e.rows (l + 1)).map (·.1) = ("view" : Str) :: e.words
    rw [rows_words e]
  | .pick x a b, l => by
    show ("pick" : Str) :: x :: (a.rows (l + 1) ++ b.rows (l + 1)).map (·.1) = ("pick" : Str) :: x :: (a.words ++ b.words)
    rw [List.map_append, rows_words a, rows_words b]
  | .op s a b, l => by
    show s :: (a.rows (l + 1) ++ b.rows (l + 1)).map (·.1) = s :: (a.words ++ b.words)
    rw [List.map_append, rows_words a, rows_words b]
theorem deep_pos (e : Ex) : 0 < e.deep := by cases e <;> simp [Ex.deep]
theorem two_max (a b : Nat) : 2 ^ (a + 1) ≤ 2 ^ (max a b + 1) ∧ 2 ^ (b + 1) ≤ 2 ^ (max a b + 1) := ⟨Nat.pow_le_pow_right (by decide) (by omega), Nat.pow_le_pow_right (by decide) (by omega)⟩
theorem words_len : ∀ e : Ex, e.words.length + 2 ≤ 2 ^ (e.deep + 1)
  | .num _ => (by show 1 + 2 ≤ 2 ^ 2; decide)
  | .var _ => (by show 1 + 2 ≤ 2 ^ 2; decide)
  | .long => (by show 1 + 2 ≤ 2 ^ 2; decide)
  | .view e => by
    have := words_len e
    show e.words.length + 1 + 2 ≤ 2 ^ (e.deep + 1 + 1)
    rw [Nat.pow_succ]
    omega
  | .pick x a b => by
    have h1 := words_len a
    have h2 := words_len b
    obtain ⟨m1, m2⟩ := two_max a.deep b.deep
    show (a.words ++ b.words).length + 1 + 1 + 2 ≤ 2 ^ (max a.deep b.deep + 1 + 1)
    rw [Nat.pow_succ, List.length_append]
    omega
  | .op s a b => by
    have h1 := words_len a
    have h2 := words_len b
    obtain ⟨m1, m2⟩ := two_max a.deep b.deep
    show (a.words ++ b.words).length + 1 + 2 ≤ 2 ^ (max a.deep b.deep + 1 + 1)
    rw [Nat.pow_succ, List.length_append]
    omega
theorem words_le {e : Ex} {n : Nat} (h : e.deep ≤ n) : e.words.length + 2 ≤ 2 ^ (n + 1) := Nat.le_trans (words_len e) (Nat.pow_le_pow_right (by decide) (by omega))
/-- only a brain's expressions see -/
def Ex.Se (se : Bool) : Ex → Prop
  | .num _ => True
  | .var _ => True
  | .long => se = true
  | .view e => se = true ∧ e.Se se
  | .pick _ a b => a.Se se ∧ b.Se se
  | .op _ a b => a.Se se ∧ b.Se se
/-- the first row that is too deep -/
def fbad (b : Nat) : List (Str × Nat) → Option Nat
  | [] => none
  | q :: r => if b < q.2 then some 0 else (fbad b r).map (· + 1)
theorem fbad_app (b : Nat) : ∀ (xs ys : List (Str × Nat)), fbad b (xs ++ ys) = match fbad b xs with
    | some j => some j
    | none => (fbad b ys).map (· + xs.length)
  | [], ys => by
    show fbad b ys = (fbad b ys).map (· + 0)
    cases fbad b ys <;> rfl
  | q :: r, ys => by
    have ih := fbad_app b r ys
    show (if b < q.2 then some 0 else (fbad b (r ++ ys)).map (· + 1)) = match (if b < q.2 then some 0 else (fbad b r).map (· + 1)) with
      | some j => some j
      | none => (fbad b ys).map (· + (r.length + 1))
    by_cases h : b < q.2
    · rw [if_pos h, if_pos h]
    · rw [if_neg h, if_neg h, ih]
      cases fbad b r with
      | some j => rfl
      | none =>
        cases fbad b ys with
        | none => rfl
        | some j => rfl
def SubAt (ws : List Str) (i : Nat) (xs : List Str) : Prop := ∀ (j : Nat) (x : Str), xs[j]? = some x → ws[i + j]? = some x
theorem SubAt.head {ws : List Str} {i : Nat} {x : Str} {xs : List Str} (h : SubAt ws i (x :: xs)) : ws[i]? = some x := h 0 x rfl
theorem SubAt.tail {ws : List Str} {i : Nat} {x : Str} {xs : List Str} (h : SubAt ws i (x :: xs)) : SubAt ws (i + 1) xs := fun j y e => by
  have := h (j + 1) y (by rw [List.getElem?_cons_succ]; exact e)
  rw [show i + 1 + j = i + (j + 1) by omega]
  exact this
theorem SubAt.left {ws : List Str} {i : Nat} {xs ys : List Str} (h : SubAt ws i (xs ++ ys)) : SubAt ws i xs := fun j y e => h j y (by
  rcases Nat.lt_or_ge j xs.length with z | z
  · rw [List.getElem?_append_left z]
    exact e
  · rw [List.getElem?_eq_none z] at e
    cases e)
theorem SubAt.right {ws : List Str} {i : Nat} {xs ys : List Str} (h : SubAt ws i (xs ++ ys)) : SubAt ws (i + xs.length) ys := fun j y e => by
  have := h (xs.length + j) y (by rw [List.getElem?_append_right (by omega), Nat.add_sub_cancel_left]; exact e)
  rw [Nat.add_assoc]
  exact this
theorem SubAt.mid (as xs bs : List Str) : SubAt (as ++ xs ++ bs) as.length xs := fun j y e => by
  have l : j < xs.length := by
    rcases Nat.lt_or_ge j xs.length with z | z
    · exact z
    · rw [List.getElem?_eq_none z] at e
      cases e
  rw [List.getElem?_append_left (by rw [List.length_append]; omega), List.getElem?_append_right (by omega), Nat.add_sub_cancel_left]
  exact e
def openAll : List Str := (["long", "view", "pick"] : List Str) ++ opL
theorem opens_all {se po : Bool} {room : Nat} {x : Str} (h : x ∈ opens se po room) : x ∈ openAll := by
  unfold opens at h
  unfold openAll
  have e1 : x ∈ (["long"] : List Str) → x ∈ ((["long", "view", "pick"] : List Str) ++ opL) := fun m => by simp_all
  have e2 : x ∈ (["pick"] : List Str) → x ∈ ((["long", "view", "pick"] : List Str) ++ opL) := fun m => by simp_all
  have e3 : x ∈ (["view"] : List Str) → x ∈ ((["long", "view", "pick"] : List Str) ++ opL) := fun m => by simp_all
  rcases List.mem_append.mp h with h | h
  · split at h
    · exact e1 h
    · cases h
  · split at h
    · rcases List.mem_append.mp h with h | h
      · rcases List.mem_append.mp h with h | h
        · exact List.mem_append_right _ h
        · split at h
          · exact e2 h
          · cases h
      · split at h
        · exact e3 h
        · cases h
    · cases h
theorem nm_head {x : Str} (h : Nm x) : x ∉ kwL ∧ ∃ d r, x.cps.toList = d :: r ∧ 97 ≤ d ∧ d ≤ 122 := by
  obtain ⟨⟨d, r, e, l, _⟩, k⟩ := h
  exact ⟨k, d, r, e, l.1, l.2⟩
theorem nm_open {x : Str} (h : Nm x) : x ∉ openAll := fun m => by
  have t : openAll.all (fun s => decide (s ∈ kwL) || !(decide (97 ≤ s.cps.toList.headD 0) && decide (s.cps.toList.headD 0 ≤ 122))) = true := by decide +kernel
  have := List.all_eq_true.mp t x m
  obtain ⟨k, d, r, e, l1, l2⟩ := nm_head h
  rw [e, decide_eq_false k] at this
  simp [l1, l2] at this
theorem open_num {x : Str} (m : x ∈ openAll) : numOf x = none := by
  refine numOf_none fun n _ e => ?_
  have t : openAll.all (fun s => decide (s.cps.toList ≠ [] ∧ ¬ (48 ≤ s.cps.toList.headD 0 ∧ s.cps.toList.headD 0 ≤ 57))) = true := by decide +kernel
  obtain ⟨t1, t2⟩ := of_decide_eq_true (List.all_eq_true.mp t x m)
  cases f : x.cps.toList with
  | nil => exact t1 f
  | cons d r =>
    rw [f] at t2
    exact t2 (TL.numL_digits n d (by rw [← e, f]; exact List.mem_cons_self))
theorem num_head {x : Str} {n : Nat} (e : x.cps.toList = TL.numL n) : (∃ d r, x.cps.toList = d :: r ∧ 48 ≤ d ∧ d ≤ 57) := by
  cases f : x.cps.toList with
  | nil =>
    rw [f] at e
    have := congrArg NumText.digitsVal e
    rw [TL.numL_val] at this
    have hn : n = 0 := this.symm
    subst hn
    exact absurd e.symm (by decide +kernel)
  | cons d r => exact ⟨d, r, rfl, TL.numL_digits n d (by rw [← e, f]; exact List.mem_cons_self)⟩
theorem nm_num {x : Str} (h : Nm x) : numOf x = none := numOf_none fun n _ e => by
  obtain ⟨_, d, r, f, l1, l2⟩ := nm_head h
  obtain ⟨d', r', f', l3, l4⟩ := num_head e
  rw [f] at f'
  cases f'
  omega
theorem num_open {x : Str} {n : Nat} (h : n ≤ 65535) (e : x.cps.toList = TL.numL n) : x ∉ openAll := fun m => by
  have := open_num m
  rw [numOf_some h e] at this
  cases this
theorem opens_in {se po : Bool} {k : Nat} {s : Str} (h : s ∈ opL ∨ (po = true ∧ s = "pick") ∨ (se = true ∧ s = "view")) : s ∈ opens se po (k + 2) := by
  unfold opens
  rw [if_pos (show 1 < k + 2 by omega)]
  refine List.mem_append_right _ ?_
  rcases h with h | ⟨rfl, rfl⟩ | ⟨rfl, rfl⟩
  · exact List.mem_append_left _ (List.mem_append_left _ h)
  · rw [if_pos rfl]
    exact List.mem_append_left _ (List.mem_append_right _ List.mem_cons_self)
  · rw [if_pos rfl]
    exact List.mem_append_right _ List.mem_cons_self
theorem opens_one {se po : Bool} {s : Str} (h : s ≠ "long") : s ∉ opens se po 1 := fun m => by
  unfold opens at m
  rw [if_neg (show ¬ 1 < 1 by omega), List.append_nil] at m
  split at m
  · exact h (List.mem_singleton.mp m)
  · cases m
theorem ops_kind {s : Str} (h : s ∈ opL) : s ∈ openAll ∧ s ≠ "long" ∧ s ≠ "view" ∧ s ≠ "pick" := ⟨List.mem_append_right _ h, (opL_ne h).2.2.1, (opL_ne h).2.2.2.1, (opL_ne h).2.2.2.2⟩
def fin (e : Ex) (i n : Nat) : Option Nat → RdR
  | none => .ok e (i + n)
  | some j => .bad (i + j)
/-- an expression at its words is read, or refused at the first word that is too deep -/
theorem read_rows {c : CuI} (hv : ∀ x ∈ c.vars, Nm x) : ∀ (e : Ex) (room l i b : Nat), e.Wf c.vars c.ops → e.Se c.se → 1 ≤ room → b + 1 = l + room → SubAt c.ws i ((e.rows l).map (·.1)) →
    readM c room i = fin e i (e.rows l).length (fbad b (e.rows l)) := by
  have vo : ∀ {s : Str}, s ∈ openAll → s ∉ c.vars := fun m z => nm_open (hv _ z) m
  have first : ∀ {s : Str} {i : Nat}, c.ws[i]? = some s → s ∈ openAll → s ≠ "long" → readM c 1 i = .bad i := fun {s i} e m n => by
    unfold readM
    rw [e]
    show (if s ∈ c.vars then _ else if s ∈ opens c.se (!c.ops.isEmpty) 1 then _ else _) = _
    rw [if_neg (vo m), if_neg (opens_one n), open_num m]
  have go : ∀ {s : Str} {k i : Nat}, c.ws[i]? = some s → s ∈ openAll → s ∈ opens c.se (!c.ops.isEmpty) (k + 1) → readM c (k + 1) i = partsR c (readM c k) s (i + 1) := fun {s k i} e m o => by
    unfold readM
    rw [e]
    show (if s ∈ c.vars then _ else if s ∈ opens c.se (!c.ops.isEmpty) (k + 1) then _ else _) = _
    rw [if_neg (vo m), if_pos o]
  have two : ∀ (f : Ex → Ex → Ex) (x y : Ex) (k l b i n : Nat) (xs ys : List (Str × Nat)), readM c k (i + n) = fin x (i + n) xs.length (fbad b xs) → (fbad b xs = none → readM c k (i + n + xs.length) = fin y (i + n + xs.length) ys.length (fbad b ys)) →
      twoR f (readM c k) (i + n) = fin (f x y) i (n + (xs.length + ys.length)) ((fbad b (xs ++ ys)).map (· + n)) := fun f x y k l b i n xs ys h1 h2 => by
    unfold twoR
    rw [fbad_app, h1]
    cases e1 : fbad b xs with
    | some j =>
      show RdR.bad (i + n + j) = RdR.bad (i + (j + n))
      rw [show i + n + j = i + (j + n) by omega]
    | none =>
      show (match readM c k (i + n + xs.length) with
        | .bad j' => RdR.bad j'
        | .ok b j' => .ok (f x b) j') = _
      rw [h2 e1]
      cases e2 : fbad b ys with
      | some j =>
        show RdR.bad (i + n + xs.length + j) = RdR.bad (i + (j + xs.length + n))
        rw [show i + n + xs.length + j = i + (j + xs.length + n) by omega]
      | none =>
        show RdR.ok (f x y) (i + n + xs.length + ys.length) = RdR.ok (f x y) (i + (n + (xs.length + ys.length)))
        rw [show i + n + xs.length + ys.length = i + (n + (xs.length + ys.length)) by omega]
  intro e
  induction e with
  | num n =>
    intro room l i b wf _ hr hb hs
    obtain ⟨k, rfl⟩ : ∃ k, room = k + 1 := ⟨room - 1, by omega⟩
    obtain ⟨m, rfl⟩ : ∃ m : Nat, n = (m : Int) := ⟨n.toNat, by have := wf.1; omega⟩
    have hm : m ≤ 65535 := by have := wf.2; omega
    have en : (Str.ofString (toString ((m : Nat) : Int))).cps.toList = TL.numL m := TL.tl_num m
    have h0 : c.ws[i]? = some (Str.ofString (toString ((m : Nat) : Int))) := hs.head
    unfold readM
    rw [h0]
    show (if Str.ofString (toString ((m : Nat) : Int)) ∈ c.vars then _ else if Str.ofString (toString ((m : Nat) : Int)) ∈ opens c.se (!c.ops.isEmpty) (k + 1) then _ else _) = _
    rw [if_neg (fun z => by have := nm_num (hv _ z); rw [numOf_some hm en] at this; cases this), if_neg (fun z => num_open hm en (opens_all z)), numOf_some hm en]
    show _ = fin _ i 1 (if b < l then some 0 else none)
    rw [if_neg (by omega)]
    rfl
  | var x =>
    intro room l i b wf _ hr hb hs
    obtain ⟨k, rfl⟩ : ∃ k, room = k + 1 := ⟨room - 1, by omega⟩
    have h0 : c.ws[i]? = some x := hs.head
    unfold readM
    rw [h0]
    show (if x ∈ c.vars then _ else _) = fin _ i 1 (if b < l then some 0 else none)
    rw [if_pos (show x ∈ c.vars from wf), if_neg (by omega)]
    rfl
  | long =>
    intro room l i b wf se hr hb hs
    obtain ⟨k, rfl⟩ : ∃ k, room = k + 1 := ⟨room - 1, by omega⟩
    have h0 : c.ws[i]? = some "long" := hs.head
    have hse : c.se = true := se
    rw [go h0 (by decide +kernel) (by unfold opens; rw [if_pos hse]; exact List.mem_append_left _ List.mem_cons_self)]
    show _ = fin _ i 1 (if b < l then some 0 else none)
    rw [if_neg (by omega)]
    unfold partsR
    rw [if_pos rfl]
    rfl
  | view e ih =>
    intro room l i b wf se hr hb hs
    obtain ⟨k, rfl⟩ : ∃ k, room = k + 1 := ⟨room - 1, by omega⟩
    have h0 : c.ws[i]? = some "view" := hs.head
    obtain ⟨nl, nv, np⟩ : ("view" : Str) ≠ "long" ∧ ("view" : Str) ∈ openAll ∧ ("pick" : Str) ≠ "view" := by decide +kernel
    show _ = fin _ i ((e.rows (l + 1)).length + 1) (if b < l + 1 then some 0 else (fbad b (e.rows (l + 1))).map (· + 1))
    cases k with
    | zero =>
      rw [first h0 nv nl, if_pos (by omega)]
      rfl
    | succ k =>
      rw [go h0 nv (opens_in (.inr (.inr ⟨se.1, rfl⟩))), if_neg (by omega)]
      unfold partsR oneR
      rw [if_neg nl, if_pos rfl, ih (k + 1) (l + 1) (i + 1) b wf se.2 (by omega) (by omega) hs.tail]
      cases fbad b (e.rows (l + 1)) with
      | none =>
        show RdR.ok _ (i + 1 + _) = RdR.ok _ (i + (_ + 1))
        rw [show i + 1 + (e.rows (l + 1)).length = i + ((e.rows (l + 1)).length + 1) by omega]
      | some j =>
        show RdR.bad (i + 1 + j) = RdR.bad (i + (j + 1))
        rw [show i + 1 + j = i + (j + 1) by omega]
  | op s x y ihx ihy =>
    intro room l i b wf se hr hb hs
    obtain ⟨k, rfl⟩ : ∃ k, room = k + 1 := ⟨room - 1, by omega⟩
    have h0 : c.ws[i]? = some s := hs.head
    obtain ⟨so, nl, nv, np⟩ := ops_kind wf.1
    show _ = fin _ i ((x.rows (l + 1) ++ y.rows (l + 1)).length + 1) (if b < l + 1 then some 0 else (fbad b (x.rows (l + 1) ++ y.rows (l + 1))).map (· + 1))
    cases k with
    | zero =>
      rw [first h0 so nl, if_pos (by omega)]
      rfl
    | succ k =>
      rw [go h0 so (opens_in (.inl wf.1)), if_neg (by omega)]
      unfold partsR
      have ht := hs.tail
      rw [List.map_append] at ht
      rw [if_neg nl, if_neg nv, if_neg np, two (.op s) x y (k + 1) l b i 1 _ _ (ihx (k + 1) (l + 1) (i + 1) b wf.2.1 se.1 (by omega) (by omega) ht.left) fun _ => ihy (k + 1) (l + 1) (i + 1 + (x.rows (l + 1)).length) b wf.2.2 se.2 (by omega) (by omega) (by
        have := ht.right
        rw [List.length_map] at this
        exact this), List.length_append, Nat.add_comm 1]
  | pick z x y ihx ihy =>
    intro room l i b wf se hr hb hs
    obtain ⟨k, rfl⟩ : ∃ k, room = k + 1 := ⟨room - 1, by omega⟩
    have h0 : c.ws[i]? = some "pick" := hs.head
    have h1 : c.ws[i + 1]? = some z := hs.tail.head
    obtain ⟨nl, nv, np⟩ : ("pick" : Str) ≠ "long" ∧ ("pick" : Str) ∈ openAll ∧ ("pick" : Str) ≠ "view" := by decide +kernel
    have po : (!c.ops.isEmpty) = true := by
      cases e : c.ops with
      | nil => have := wf.1; rw [e] at this; cases this
      | cons _ _ => rfl
    show _ = fin _ i ((x.rows (l + 1) ++ y.rows (l + 1)).length + 1 + 1) (if b < l + 1 then some 0 else (if b < l then some 0 else (fbad b (x.rows (l + 1) ++ y.rows (l + 1))).map (· + 1)).map (· + 1))
    cases k with
    | zero =>
      rw [first h0 nv nl, if_pos (by omega)]
      rfl
    | succ k =>
      rw [go h0 nv (opens_in (.inr (.inl ⟨po, rfl⟩))), if_neg (by omega), if_neg (by omega)]
      unfold partsR
      have ht := hs.tail.tail
      rw [List.map_append] at ht
      rw [if_neg nl, if_neg np, if_pos rfl, h1]
      show (if z ∈ c.ops then twoR (Ex.pick z) (readM c (k + 1)) (i + 1 + 1) else _) = _
      rw [if_pos wf.1, show i + 1 + 1 = i + 2 from rfl, two (.pick z) x y (k + 1) l b i 2 _ _ (ihx (k + 1) (l + 1) (i + 2) b wf.2.1 se.1 (by omega) (by omega) ht.left) fun _ => ihy (k + 1) (l + 1) (i + 2 + (x.rows (l + 1)).length) b wf.2.2 se.2 (by omega) (by omega) (by
        have := ht.right
        rw [List.length_map] at this
        exact this), List.length_append, Nat.add_comm 2]
      cases fbad b (x.rows (l + 1) ++ y.rows (l + 1)) <;> rfl
theorem inV_non : ∀ {l : List Str}, inV .non (l.map V.str) = false
  | [] => rfl
  | y :: r => by
    have ih := inV_non (l := r)
    unfold inV at ih ⊢
    rw [List.map_cons, List.any_cons, ih]
    rfl
theorem here_flat {ws : List Str} {i : Nat} : flatV (hereV ws i) = true := by
  unfold hereV
  split <;> rfl
theorem same_at {H H' : Hp} {S : Addr} {o : HO} (s : Same H H') (f : H S = none) : Same H (upd H' S o) := fun b x e => by
  rw [upd_ne (ne_of_none e f)]
  exact s _ _ e
theorem paired_app {α β : Type} {R : α → β → Prop} : ∀ {xs zs : List α} {ys ws : List β}, Paired R xs ys → Paired R zs ws → Paired R (xs ++ zs) (ys ++ ws)
  | _, _, _, _, .nil, b => b
  | _, _, _, _, .cons h a, b => .cons h (paired_app a b)
theorem pgetC {α β : Type} {R : α → β → Prop} : ∀ {xs : List α} {ys : List β} {i : Nat} {x : α}, Paired R xs ys → xs[i]? = some x → ∃ y, ys[i]? = some y ∧ R x y
  | _, _, i, x, .nil, e => by simp at e
  | _, _, 0, x, .cons r _, e => by
    cases e
    exact ⟨_, rfl, r⟩
  | _, _, i + 1, x, .cons _ t, e => by
    rw [List.getElem?_cons_succ] at e
    rw [List.getElem?_cons_succ]
    exact pgetC t e
theorem paired_len {α β : Type} {R : α → β → Prop} : ∀ {xs : List α} {ys : List β}, Paired R xs ys → xs.length = ys.length
  | _, _, .nil => rfl
  | _, _, .cons _ t => by rw [List.length_cons, List.length_cons, paired_len t]


/-! ### the stranger's words -/
def wS (k : Nat) : Str := ("w" : Str) ++ Str.ofString (toString ((k : Nat) : Int))
theorem wS_cps (k : Nat) : (wS k).cps.toList = 119 :: TL.numL k := by
  unfold wS
  have e : (Str.ofString (toString ((k : Nat) : Int))).cps.toList = TL.numL k := TL.tl_num k
  rw [app_cps, e]
  rfl
theorem wS_nm {k : Nat} (h : k < 20) : Nm (wS k) := by
  refine ⟨⟨119, TL.numL k, wS_cps k, ⟨by decide, by decide⟩, fun d m => .inr (TL.numL_digits k d m), ?_⟩, ?_⟩
  · have := TL.numL_len (n := k) (k := 2) (by decide) (by omega)
    omega
  · have : (List.range 20).all (fun k => decide (wS k ∉ kwL)) = true := by decide +kernel
    exact of_decide_eq_true (List.all_eq_true.mp this k (List.mem_range.mpr h))
theorem wS_free {ts : List Str} (h : ts.length < 20) : ¬ ∀ k, k < 20 → wS k ∈ ts := fun z => by
  have nd : ((List.range 20).map wS).Nodup := by decide +kernel
  have := nodup_le nd fun x m => by
    obtain ⟨k, mk, rfl⟩ := List.mem_map.mp m
    exact z k (List.mem_range.mp mk)
  rw [List.length_map, List.length_range] at this
  omega
def WW (ts : List Str) (i : Nat) (x : Str) : Prop := (Nm x ∧ x ∉ ts) ∨ ∀ k, k < i → wS k ∈ ts
theorem wS_val (i : Nat) : ("w" : Str) ++ Str.ofString (toString (0 + (i : Int))) = wS i := by
  rw [Int.zero_add]
  rfl
theorem words_ok {ns ps : List Str} (hn : ∀ x ∈ ns, Nm x) (hp : ∀ x ∈ ps, Nm x) : ∀ e : Ex, e.Wf ns ps → Wds e.words
  | .num n, h => by
    obtain ⟨m, rfl⟩ : ∃ m : Nat, n = (m : Int) := ⟨n.toNat, by have := h.1; omega⟩
    have hm : m < 10 ^ 6 := by have := h.2; omega
    intro x mx
    rw [List.mem_singleton.mp mx]
    obtain ⟨n1, n2⟩ := num_asc m hm
    exact ⟨n1, by omega⟩
  | .var x, h => fun y my => by
    rw [List.mem_singleton.mp my]
    exact ⟨(hn x h).1.lt, Nat.le_trans (hn x h).1.len (by decide)⟩
  | .long, _ => fun y my => asc_of (n := 100) (ss := ["long"]) (by decide +kernel) my
  | .view e, h => fun y my => by
    rcases List.mem_cons.mp my with rfl | my
    · exact asc_of (n := 100) (ss := ["view"]) (by decide +kernel) List.mem_cons_self
    · exact words_ok hn hp e h y my
  | .pick x a b, h => fun y my => by
    rcases List.mem_cons.mp my with rfl | my
    · exact asc_of (n := 100) (ss := ["pick"]) (by decide +kernel) List.mem_cons_self
    rcases List.mem_cons.mp my with rfl | my
    · exact ⟨(hp _ h.1).1.lt, Nat.le_trans (hp _ h.1).1.len (by decide)⟩
    rcases List.mem_append.mp my with my | my
    · exact words_ok hn hp a h.2.1 y my
    · exact words_ok hn hp b h.2.2 y my
  | .op s a b, h => fun y my => by
    rcases List.mem_cons.mp my with rfl | my
    · exact asc_of (n := 100) (ss := opL) (by decide +kernel) h.1
    rcases List.mem_append.mp my with my | my
    · exact words_ok hn hp a h.2.1 y my
    · exact words_ok hn hp b h.2.2 y my
/-! ### an expression as data -/
def Ex.data : Ex → PyData
  | .num n => .tuple [.str "number", .int n]
  | .var x => .tuple [.str "variable", .str x]
  | .long => .tuple [.str "long"]
  | .view e => .tuple [.str "view", e.data]
  | .pick x a b => .tuple [.str "pick", .str x, a.data, b.data]
  | .op s a b => .tuple [.str s, a.data, b.data]
theorem Ev.da {H : Hp} : ∀ {v : V} {e : Ex}, Ev H v e → Da H v e.data
  | _, _, .num h => .tup h rfl fun i v d h1 h2 => match i, h1, h2 with
    | 0, h1, h2 => by cases h1; cases h2; exact .str _
    | 1, h1, h2 => by cases h1; cases h2; exact .int _
  | _, _, .var h => .tup h rfl fun i v d h1 h2 => match i, h1, h2 with
    | 0, h1, h2 => by cases h1; cases h2; exact .str _
    | 1, h1, h2 => by cases h1; cases h2; exact .str _
  | _, _, .long h => .tup h rfl fun i v d h1 h2 => match i, h1, h2 with
    | 0, h1, h2 => by cases h1; cases h2; exact .str _
  | _, _, .view h a => .tup h rfl fun i v d h1 h2 => match i, h1, h2 with
    | 0, h1, h2 => by cases h1; cases h2; exact .str _
    | 1, h1, h2 => by cases h1; cases h2; exact a.da
  | _, _, .pick h a b => .tup h rfl fun i v d h1 h2 => match i, h1, h2 with
    | 0, h1, h2 => by cases h1; cases h2; exact .str _
    | 1, h1, h2 => by cases h1; cases h2; exact .str _
    | 2, h1, h2 => by cases h1; cases h2; exact a.da
    | 3, h1, h2 => by cases h1; cases h2; exact b.da
  | _, _, .op h a b => .tup h rfl fun i v d h1 h2 => match i, h1, h2 with
    | 0, h1, h2 => by cases h1; cases h2; exact .str _
    | 1, h1, h2 => by cases h1; cases h2; exact a.da
    | 2, h1, h2 => by cases h1; cases h2; exact b.da
theorem data_ok : ∀ e : Ex, e.data.depth ≤ e.deep ∧ wide e.data = true
  | .num n => ⟨by simp [Ex.data, Ex.deep, PyData.depth, PyData.depthAll], by simp [Ex.data, wide, wideAll]⟩
  | .var x => ⟨by simp [Ex.data, Ex.deep, PyData.depth, PyData.depthAll], by simp [Ex.data, wide, wideAll]⟩
  | .long => ⟨by simp [Ex.data, Ex.deep, PyData.depth, PyData.depthAll], by simp [Ex.data, wide, wideAll]⟩
  | .view e => by
    obtain ⟨h1, h2⟩ := data_ok e
    refine ⟨?_, by simp [Ex.data, wide, wideAll, h2]⟩
    simp only [Ex.data, Ex.deep, PyData.depth, PyData.depthAll]
    omega
  | .pick x a b => by
    obtain ⟨h1, h2⟩ := data_ok a
    obtain ⟨h3, h4⟩ := data_ok b
    refine ⟨?_, by simp [Ex.data, wide, wideAll, h2, h4]⟩
    simp only [Ex.data, Ex.deep, PyData.depth, PyData.depthAll]
    omega
  | .op s a b => by
    obtain ⟨h1, h2⟩ := data_ok a
    obtain ⟨h3, h4⟩ := data_ok b
    refine ⟨?_, by simp [Ex.data, wide, wideAll, h2, h4]⟩
    simp only [Ex.data, Ex.deep, PyData.depth, PyData.depthAll]
    omega
theorem pair_da {H : Hp} {p : Addr} {v : V} {k : Str} {d : PyData} (h : H p = some (.tup [.str k, v])) (g : Da H v d) : Da H (.ref p) (.tuple [.str k, d]) := .tup h rfl fun i w x h1 h2 => match i, h1, h2 with
  | 0, h1, h2 => by cases h1; cases h2; exact .str _
  | 1, h1, h2 => by cases h1; cases h2; exact g
theorem ref_da {H : Hp} {p : Addr} {j : Int} (h : H p = some (.tup [.str "refused", .int j, .bl true])) : Da H (.ref p) (.tuple [.str "refused", .int j, .bool true]) := .tup h rfl fun i w x h1 h2 => match i, h1, h2 with
  | 0, h1, h2 => by cases h1; cases h2; exact .str _
  | 1, h1, h2 => by cases h1; cases h2; exact .int _
  | 2, h1, h2 => by cases h1; cases h2; exact .bl _
theorem cut_strs (L : List Str) (lo hi : Option Int) : ∃ us : List Str, cutV (L.map V.str) lo hi = us.map V.str ∧ us.length ≤ L.length ∧ ∀ x ∈ us, x ∈ L := by
  unfold cutV
  refine ⟨(L.drop (HT.sIx (L.map V.str).length 0 lo)).take (HT.sIx (L.map V.str).length (L.map V.str).length hi - HT.sIx (L.map V.str).length 0 lo), by rw [List.map_take, List.map_drop], ?_, fun z mz => List.mem_of_mem_drop (List.mem_of_mem_take mz)⟩
  rw [List.length_take, List.length_drop]
  omega
theorem CuX.keep2 {C : Addr} {H H' : Hp} {c : CuI} {i : Nat} {p r : Addr} (h : CuX C H c i) (b : ∀ d o, d ≠ p → d ≠ r → H d = some o → H' d = some o) (n1 : c.a ≠ p ∧ c.wl ≠ p ∧ c.z1 ≠ p ∧ c.z2 ≠ p) (n2 : c.a ≠ r ∧ c.wl ≠ r ∧ c.z1 ≠ r ∧ c.z2 ≠ r) : CuX C H' c i := by
  obtain ⟨l, ⟨dx, e⟩, f, g, k⟩ := h
  exact ⟨l, ⟨dx, b _ _ n1.1 n2.1 e⟩, b _ _ n1.2.1 n2.2.1 f, b _ _ n1.2.2.1 n2.2.2.1 g, b _ _ n1.2.2.2 n2.2.2.2 k⟩
theorem read_open {c : CuI} {s : Str} {k i : Nat} (e : c.ws[i]? = some s) (m : s ∉ c.vars) (o : s ∈ opens c.se (!c.ops.isEmpty) (k + 1)) : readM c (k + 1) i = partsR c (readM c k) s (i + 1) := by
  unfold readM
  rw [e]
  show (if s ∈ c.vars then _ else if s ∈ opens c.se (!c.ops.isEmpty) (k + 1) then _ else _) = _
  rw [if_neg m, if_pos o]
theorem read_bad {c : CuI} {s : Str} {k i : Nat} (e : c.ws[i]? = some s) (m : s ∉ c.vars) (o : s ∉ opens c.se (!c.ops.isEmpty) (k + 1)) (n : numOf s = none) : readM c (k + 1) i = .bad i := by
  unfold readM
  rw [e]
  show (if s ∈ c.vars then _ else if s ∈ opens c.se (!c.ops.isEmpty) (k + 1) then _ else _) = _
  rw [if_neg m, if_neg o, n]
theorem read_num {c : CuI} {s : Str} {k i n : Nat} (e : c.ws[i]? = some s) (m : s ∉ c.vars) (o : s ∉ opens c.se (!c.ops.isEmpty) (k + 1)) (h : numOf s = some n) : readM c (k + 1) i = .ok (.num n) (i + 1) := by
  unfold readM
  rw [e]
  show (if s ∈ c.vars then _ else if s ∈ opens c.se (!c.ops.isEmpty) (k + 1) then _ else _) = _
  rw [if_neg m, if_neg o, h]
theorem one_num : numOf "1" = some 1 := numOf_some (by decide) (by decide +kernel)
theorem one_nm : ¬ Nm "1" := fun h => by
  have := nm_num h
  rw [one_num] at this
  cases this
theorem stranger1 {c : CuI} {mo : Str} (hw : c.ws = ([("=" : Str), "1", mo] : List Str)) (hv : ∀ x ∈ c.vars, Nm x) (hm : Nm mo) (hn : mo ∉ c.vars) : readM c 9 0 = .bad 2 := by
  have e0 : c.ws[0]? = some ("=" : Str) := by rw [hw]; rfl
  have e1 : c.ws[1]? = some ("1" : Str) := by rw [hw]; rfl
  have e2 : c.ws[2]? = some mo := by rw [hw]; rfl
  obtain ⟨o1, o2, o3, o4, o5, o6⟩ : ("=" : Str) ∈ openAll ∧ ("=" : Str) ∈ opL ∧ ("=" : Str) ≠ "long" ∧ ("=" : Str) ≠ "view" ∧ ("=" : Str) ≠ "pick" ∧ ("1" : Str) ∉ openAll := by decide +kernel
  rw [read_open e0 (fun z => nm_open (hv _ z) o1) (opens_in (.inl o2))]
  unfold partsR twoR
  rw [if_neg o3, if_neg o4, if_neg o5, read_num (k := 7) (i := 1) e1 (fun z => one_nm (hv _ z)) (fun z => o6 (opens_all z)) one_num]
  show (match readM c 8 2 with
    | .bad j' => RdR.bad j'
    | .ok b j' => .ok _ j') = _
  rw [read_bad (k := 7) (i := 2) e2 hn (fun z => nm_open hm (opens_all z)) (nm_num hm)]
theorem stranger2 {c : CuI} {mo : Str} (hw : c.ws = ([("pick" : Str), mo, "1", "2"] : List Str)) (hs : c.se = false) (hv : ∀ x ∈ c.vars, Nm x) (hn : mo ∉ c.ops) : ∃ j, readM c 9 0 = .bad j := by
  have e0 : c.ws[0]? = some ("pick" : Str) := by rw [hw]; rfl
  have e1 : c.ws[1]? = some mo := by rw [hw]; rfl
  obtain ⟨o1, o3, o4⟩ : ("pick" : Str) ∈ openAll ∧ ("pick" : Str) ≠ "long" ∧ ("pick" : Str) ≠ "view" := by decide +kernel
  cases e : (!c.ops.isEmpty) with
  | false =>
    refine ⟨0, read_bad e0 (fun z => nm_open (hv _ z) o1) ?_ (open_num o1)⟩
    rw [e, hs]
    decide +kernel
  | true =>
    refine ⟨1, ?_⟩
    rw [read_open e0 (fun z => nm_open (hv _ z) o1) (opens_in (.inr (.inl ⟨e, rfl⟩)))]
    unfold partsR
    rw [if_neg o3, if_neg o4, if_pos rfl, e1]
    show (if mo ∈ c.ops then _ else _) = _
    rw [if_neg hn]

theorem fbad_none {b : Nat} : ∀ {rs : List (Str × Nat)}, fbad b rs = none → ∀ (i : Nat) q, rs[i]? = some q → q.2 ≤ b
  | [], _, i, q, e => by simp at e
  | p :: r, h, i, q, e => by
    have h' : (if b < p.2 then some 0 else (fbad b r).map (· + 1)) = none := h
    by_cases z : b < p.2
    · rw [if_pos z] at h'
      cases h'
    · rw [if_neg z] at h'
      cases f : fbad b r with
      | some j => rw [f] at h'; cases h'
      | none =>
        cases i with
        | zero => cases e; omega
        | succ i => exact fbad_none f i q (by rw [List.getElem?_cons_succ] at e; exact e)
theorem fbad_some {b : Nat} : ∀ {rs : List (Str × Nat)} {j : Nat}, fbad b rs = some j → (∃ q, rs[j]? = some q ∧ b < q.2) ∧ ∀ (i : Nat) q, i < j → rs[i]? = some q → q.2 ≤ b
  | [], _, h => by cases h
  | p :: r, j, h => by
    have h' : (if b < p.2 then some 0 else (fbad b r).map (· + 1)) = some j := h
    by_cases z : b < p.2
    · rw [if_pos z] at h'
      cases h'
      exact ⟨⟨p, rfl, z⟩, fun i q l _ => absurd l (Nat.not_lt_zero i)⟩
    · rw [if_neg z] at h'
      cases f : fbad b r with
      | none => rw [f] at h'; cases h'
      | some k =>
        rw [f] at h'
        cases h'
        obtain ⟨⟨q, e, l⟩, g⟩ := fbad_some f
        refine ⟨⟨q, by rw [List.getElem?_cons_succ]; exact e, l⟩, fun i q2 l2 e2 => ?_⟩
        cases i with
        | zero => cases e2; omega
        | succ i =>
          have l3 : i + 1 < k + 1 := l2
          exact g i q2 (by omega) (by rw [List.getElem?_cons_succ] at e2; exact e2)
theorem str_of_map {ns : List Str} {i : Nat} {y : V} (hi : (ns.map V.str)[i]? = some y) : ∃ z, ns[i]? = some z ∧ y = V.str z := by
  rw [List.getElem?_map] at hi
  cases e : ns[i]? with
  | none => rw [e] at hi; cases hi
  | some u => rw [e] at hi; exact ⟨u, rfl, (Option.some.inj hi).symm⟩
theorem strs_lay' {ns : List Str} (h : ∀ x ∈ ns, Asc x) (l : ns.length ≤ 100000) : Lay 1 (.list (ns.map PyData.str)) := lay_list (n := 0) (by rw [List.length_map]; omega) fun d m => by
  obtain ⟨w, mw, rfl⟩ := List.mem_map.mp m
  exact lay_str (asc_ok (h w mw))

structure Txt (K : PySem.W.Frag) (mg : Str → Option Value) where
  C_Cursor : Addr
  C_BadText : Addr
  a_BadText_init : Addr
  d_BadText_init : FuncData
  m_BadText : mg "BadText" = some (.ref C_BadText)
  e_BadText : ErrC K C_BadText a_BadText_init s_BadText_init "BadText.__init__" "at" d_BadText_init
  b_BadText_init : Binds K d_BadText_init ["self", "at"] []
  t_BadText : PySem.W.exmOne K (.ref C_BadText) (.ref C_BadText) = some true
  C_GameError : Addr
  m_GameError : mg "GameError" = some (.ref C_GameError)
  t_BadText_GameError : PySem.W.exmOne K (.ref C_BadText) (.ref C_GameError) = some true
  i_BadText : ErrI K C_BadText
  kv_BadText : PySem.W.kitOne K (.ref C_BadText) (.type "ValueError") = some true
  kk_BadText_GameError : PySem.W.kitOne K (.ref C_BadText) (.ref C_GameError) = some true
  kk_BadText_BadText : PySem.W.kitOne K (.ref C_BadText) (.ref C_BadText) = some true
  z_super : mg "super" = none
  a_Cursor_init : Addr
  d_Cursor_init : FuncData
  zk_Cursor_init_0 : Addr
  qzk_Cursor_init_0 : ∀ H, SqT K H zk_Cursor_init_0 []
  zk_Cursor_init_1 : Addr
  qzk_Cursor_init_1 : ∀ H, SqT K H zk_Cursor_init_1 []
  F_Cursor_init : FunD K "__init__" "Cursor.__init__" (defArgs s_Cursor_init) (defBody s_Cursor_init) (defScope s_Cursor_init) [] [("options", .ref zk_Cursor_init_0), ("variables", .ref zk_Cursor_init_1), ("sees", .bl false)] a_Cursor_init d_Cursor_init
  ds_Cursor_init : List Value
  v_Cursor_init : Vals [.ref zk_Cursor_init_0, .ref zk_Cursor_init_1, .bl false] ds_Cursor_init
  bd_Cursor_init : Binds K d_Cursor_init ["self", "words", "options", "variables", "sees"] ds_Cursor_init
  kb_Cursor_init : KBn K d_Cursor_init ["self", "words", "options", "variables", "sees"] 2 ["options", "variables", "sees"] (fun us ws => us ++ ws) (fun vs zs => vs ++ zs)
  mk_Cursor : Mk K C_Cursor a_Cursor_init
  a_number_of : Addr
  d_number_of : FuncData
  F_number_of : Fun K "number_of" "number_of" s_number_of a_number_of d_number_of
  b_number_of : Binds K d_number_of ["word"] []
  m_number_of : mg "number_of" = some (.ref a_number_of)
  a_Cursor_word : Addr
  d_Cursor_word : FuncData
  F_Cursor_word : Fun K "word" "Cursor.word" s_Cursor_word a_Cursor_word d_Cursor_word
  b_Cursor_word : Binds K d_Cursor_word ["self"] []
  p_Cursor_word : Addr
  pr_Cursor_word : PropOf K C_Cursor "word" p_Cursor_word a_Cursor_word
  a_Cursor_pass_if : Addr
  d_Cursor_pass_if : FuncData
  F_Cursor_pass_if : Fun K "_pass_if" "Cursor._pass_if" s_Cursor_pass_if a_Cursor_pass_if d_Cursor_pass_if
  b_Cursor_pass_if : Binds K d_Cursor_pass_if ["self", "fits"] []
  me_Cursor_pass_if : Meth K C_Cursor "_pass_if" a_Cursor_pass_if
  a_Cursor_take_word : Addr
  d_Cursor_take_word : FuncData
  F_Cursor_take_word : Fun K "take_word" "Cursor.take_word" s_Cursor_take_word a_Cursor_take_word d_Cursor_take_word
  b_Cursor_take_word : Binds K d_Cursor_take_word ["self", "word"] []
  me_Cursor_take_word : Meth K C_Cursor "take_word" a_Cursor_take_word
  a_Cursor_take_number : Addr
  d_Cursor_take_number : FuncData
  F_Cursor_take_number : Fun K "take_number" "Cursor.take_number" s_Cursor_take_number a_Cursor_take_number d_Cursor_take_number
  b_Cursor_take_number : Binds K d_Cursor_take_number ["self", "least", "most"] []
  me_Cursor_take_number : Meth K C_Cursor "take_number" a_Cursor_take_number
  a_Cursor_take_name : Addr
  d_Cursor_take_name : FuncData
  F_Cursor_take_name : Fun K "take_name" "Cursor.take_name" s_Cursor_take_name a_Cursor_take_name d_Cursor_take_name
  b_Cursor_take_name : Binds K d_Cursor_take_name ["self", "names"] []
  me_Cursor_take_name : Meth K C_Cursor "take_name" a_Cursor_take_name
  a_openings : Addr
  d_openings : FuncData
  F_openings : Fun K "_openings" "_openings" s_openings a_openings d_openings
  b_openings : Binds K d_openings ["cursor", "room"] []
  m_openings : mg "_openings" = some (.ref a_openings)
  a_read_parts : Addr
  d_read_parts : FuncData
  F_read_parts : Fun K "_read_parts" "_read_parts" s_read_parts a_read_parts d_read_parts
  b_read_parts : Binds K d_read_parts ["cursor", "word", "room"] []
  m_read_parts : mg "_read_parts" = some (.ref a_read_parts)
  a_read_expression : Addr
  d_read_expression : FuncData
  F_read_expression : FunD K "read_expression" "read_expression" (defArgs s_read_expression) (defBody s_read_expression) (defScope s_read_expression) [] [("room", .int 12)] a_read_expression d_read_expression
  ds_read_expression : List Value
  v_read_expression : Vals [.int 12] ds_read_expression
  bd_read_expression : Binds K d_read_expression ["cursor", "room"] ds_read_expression
  kb_read_expression : KBn K d_read_expression ["cursor", "room"] 1 ["room"] (fun us ws => us ++ ws) (fun vs zs => vs ++ zs)
  m_read_expression : mg "read_expression" = some (.ref a_read_expression)
  a_expression_words : Addr
  d_expression_words : FuncData
  F_expression_words : Fun K "expression_words" "expression_words" s_expression_words a_expression_words d_expression_words
  b_expression_words : Binds K d_expression_words ["expression"] []
  m_expression_words : mg "expression_words" = some (.ref a_expression_words)
  a_law_pool : Addr
  d_law_pool : FuncData
  F_law_pool : Fun K "_law_pool" "_law_pool" s_law_pool a_law_pool d_law_pool
  b_law_pool : Binds K d_law_pool ["script", "budget"] []
  m_law_pool : mg "_law_pool" = some (.ref a_law_pool)
  a_law_draw : Addr
  d_law_draw : FuncData
  F_law_draw : Fun K "_law_draw" "_law_draw" s_law_draw a_law_draw d_law_draw
  b_law_draw : Binds K d_law_draw ["pool", "size"] []
  m_law_draw : mg "_law_draw" = some (.ref a_law_draw)
  a_law_spend : Addr
  d_law_spend : FuncData
  F_law_spend : Fun K "_law_spend" "_law_spend" s_law_spend a_law_spend d_law_spend
  b_law_spend : Binds K d_law_spend ["pool"] []
  m_law_spend : mg "_law_spend" = some (.ref a_law_spend)
  a_law_few : Addr
  d_law_few : FuncData
  F_law_few : Fun K "_law_few" "_law_few" s_law_few a_law_few d_law_few
  b_law_few : Binds K d_law_few ["pool", "most"] []
  m_law_few : mg "_law_few" = some (.ref a_law_few)
  a_law_number : Addr
  d_law_number : FuncData
  F_law_number : Fun K "_law_number" "_law_number" s_law_number a_law_number d_law_number
  b_law_number : Binds K d_law_number ["pool"] []
  m_law_number : mg "_law_number" = some (.ref a_law_number)
  a_law_same : Addr
  d_law_same : FuncData
  F_law_same : Fun K "_law_same" "_law_same" s_law_same a_law_same d_law_same
  b_law_same : Binds K d_law_same ["actual", "due"] []
  m_law_same : mg "_law_same" = some (.ref a_law_same)
  a_law_keys : Addr
  d_law_keys : FuncData
  F_law_keys : Fun K "_law_keys" "_law_keys" s_law_keys a_law_keys d_law_keys
  b_law_keys : Binds K d_law_keys [] []
  m_law_keys : mg "_law_keys" = some (.ref a_law_keys)
  a_law_name : Addr
  d_law_name : FuncData
  F_law_name : Fun K "_law_name" "_law_name" s_law_name a_law_name d_law_name
  b_law_name : Binds K d_law_name ["pool", "taken"] []
  m_law_name : mg "_law_name" = some (.ref a_law_name)
  a_law_names : Addr
  d_law_names : FuncData
  F_law_names : Fun K "_law_names" "_law_names" s_law_names a_law_names d_law_names
  b_law_names : Binds K d_law_names ["pool", "most"] []
  m_law_names : mg "_law_names" = some (.ref a_law_names)
  a_law_expression : Addr
  d_law_expression : FuncData
  F_law_expression : Fun K "_law_expression" "_law_expression" s_law_expression a_law_expression d_law_expression
  b_law_expression : Binds K d_law_expression ["pool", "names", "picks", "brain", "deep"] []
  m_law_expression : mg "_law_expression" = some (.ref a_law_expression)
  a_law_rows : Addr
  d_law_rows : FuncData
  F_law_rows : Fun K "_law_rows" "_law_rows" s_law_rows a_law_rows d_law_rows
  b_law_rows : Binds K d_law_rows ["due", "level"] []
  m_law_rows : mg "_law_rows" = some (.ref a_law_rows)
  a_law_read : Addr
  d_law_read : FuncData
  F_law_read : Fun K "_law_read" "_law_read" s_law_read a_law_read d_law_read
  b_law_read : Binds K d_law_read ["cursor", "bound"] []
  m_law_read : mg "_law_read" = some (.ref a_law_read)
  a_law_stranger : Addr
  d_law_stranger : FuncData
  F_law_stranger : Fun K "_law_stranger" "_law_stranger" s_law_stranger a_law_stranger d_law_stranger
  b_law_stranger : Binds K d_law_stranger ["known", "passed"] []
  m_law_stranger : mg "_law_stranger" = some (.ref a_law_stranger)
  a_law : Addr
  d_law : FuncData
  F_law : Fun K "law" "law" s_law a_law d_law
  b_law : Binds K d_law ["script"] []
  m_law : mg "law" = some (.ref a_law)
  m_Cursor : mg "Cursor" = some (.ref C_Cursor)
  cl_Cursor : Cls K C_Cursor
  n_Cursor__words : NoAttr K C_Cursor "_words"
  n_Cursor_options : NoAttr K C_Cursor "options"
  n_Cursor_variables : NoAttr K C_Cursor "variables"
  n_Cursor_sees : NoAttr K C_Cursor "sees"
  n_Cursor_at : NoAttr K C_Cursor "at"
  v_GREATEST_NUMBER : Value
  g_GREATEST_NUMBER : mg "GREATEST_NUMBER" = some v_GREATEST_NUMBER
  r_GREATEST_NUMBER : RelV (.int 65535) v_GREATEST_NUMBER
  v_LONGEST_NUMBER : Value
  g_LONGEST_NUMBER : mg "LONGEST_NUMBER" = some v_LONGEST_NUMBER
  r_LONGEST_NUMBER : RelV (.int 5) v_LONGEST_NUMBER
  A_OPERATORS : Addr
  g_OPERATORS : mg "OPERATORS" = some (.ref A_OPERATORS)
  q_OPERATORS : ∀ H, SqT K H A_OPERATORS [.str "+", .str "-", .str "*", .str "/", .str "mod", .str "<", .str "="]
  qd_OPERATORS : ∃ o, K.lookup A_OPERATORS = some o ∧ o.cls = .type "tuple" ∧ o.dict = none
  z_bool : mg "bool" = none
  z_int : mg "int" = none
  z_isinstance : mg "isinstance" = none
  z_len : mg "len" = none
  z_list : mg "list" = none
  z_min : mg "min" = none
  z_range : mg "range" = none
  z_str : mg "str" = none
  z_tuple : mg "tuple" = none
section
variable {P : Program} [PrOk P] {w : World} {K : PySem.W.Frag} {mg : Str → Option Value} {base : Heap}
theorem nsc_BadText_init : NdefX.NScope ["self", "at", "__class__"] ["self", "at"] ["__class__"] (defScope s_BadText_init) := NdefX.nscope_by (by decide +kernel)
theorem ok_BadText_init (T : Txt K mg) : FnOk P w K mg base CX0 1 T.a_BadText_init T.d_BadText_init ["self", "at"] (spErr T.C_BadText "at" okInt) := by
  obtain ⟨y1, y2, y3, y4, y5, y6, y7, y8, y9, yA, yB, yC, yD, yE, yF, yG, yH, yI, yJ, lk, hcd, hcode, hvs, hcell, hsup, hB, hself, hop⟩ := T.e_BadText.fn
  rw [yJ] at lk ⊢
  refine fn_super lk hcd hcode hvs PrOk.file hcell T.e_BadText.ox hsup hB hself hop T.z_super PrOk.top rfl rfl nsc_BadText_init (by decide +kernel) (fun vs H Q E h => ?_) (fun A outer s H vs Q E hr h => ?_) (fun _ => rfl) (fun _ => rfl) (fun _ => ⟨_, rfl⟩) (fun _ => rfl)
  · obtain ⟨x, v, rfl, _⟩ := h
    rfl
  obtain ⟨x, v, rfl, hx, hv, k⟩ := h
  refine ⟨_, _, x, (pa_cons (pe_joined (PJ.cons pe_str (PJ.cons (pe_fmt (pv 1)) PJ.nil))) pa_nil), (pss_one (ps_ost (pv 0) (pv 1))), rfl, hx, ?_⟩
  obtain ⟨i, rfl, hi⟩ := hv
  refine ⟨_, rfl, by first | decide +kernel | exact okInt_len _ hi (by decide +kernel), ⟨_, rfl, .inr ⟨i, rfl, okInt_log hi, _, rfl, okInt_len _ hi (by decide +kernel), ⟨by show 1 ≤ 1000; decide, hx, ?_⟩⟩⟩⟩
  refine ⟨_, rfl, _, rfl, x, T.C_BadText, rfl, T.e_BadText.ox, T.e_BadText.no, .inl ⟨hx, k⟩⟩
/-! ### Cursor.__init__ -/
def sp_Cursor_init (T : Txt K mg) : Sp := fun vs H Q _ => ∃ (x dx a o1 o2 : Addr) (ws os us : List Str) (se : Bool), vs = [.ref x, .ref a, .ref o1, .ref o2, .bl se] ∧ H x = some (.ins T.C_Cursor dx []) ∧ H a = some (.lst (ws.map V.str)) ∧ H o1 = some (.lst (os.map V.str)) ∧ H o2 = some (.lst (us.map V.str)) ∧
  ∀ (c : CuI) (H' : Hp), But x H H' → c.a = x → c.ws = ws → c.ops = os → c.vars = us → c.se = se → H c.wl = none → H c.z1 = none → H c.z2 = none → CuX T.C_Cursor H' c 0 → Q .non H'

theorem ok_Cursor_init (T : Txt K mg) : FnOk P w K mg base CX0 1 T.a_Cursor_init T.d_Cursor_init ["self", "words", "options", "variables", "sees"] (sp_Cursor_init T) := by
  refine T.F_Cursor_init.ok sc_Cursor_init (fun vs H Q E h => ?_) (fun cdv A outer s H vs Q E hr h => ?_)
  · obtain ⟨x, dx, a, o1, o2, ws, os, us, se, rfl, _⟩ := h
    rfl
  obtain ⟨x, dx, a, o1, o2, ws, os, us, se, rfl, hx, ha, ho1, ho2, q⟩ := h
  refine ⟨_, (pss_cons (ps_fld (pv 0) (pe_callTy call_list_of (by rfl) T.z_list (by first | exact PySem.boot_list | decide +kernel) (pa_cons (pv 1) pa_nil)) rfl)
      (pss_cons (ps_fld (pv 0) (pe_callTy call_tuple_of (by rfl) T.z_tuple (by first | exact PySem.boot_tuple | decide +kernel) (pa_cons (pv 2) pa_nil)) rfl)
      (pss_cons (ps_fld (pv 0) (pe_callTy call_tuple_of (by rfl) T.z_tuple (by first | exact PySem.boot_tuple | decide +kernel) (pa_cons (pv 3) pa_nil)) rfl)
      (pss_cons (ps_fld (pv 0) (pv 4) rfl)
      (pss_one (ps_fld (pv 0) pe_int rfl)))))), ?_⟩
  have na : a ≠ x := fun z => by rw [z, hx] at ha; cases ha
  refine ⟨_, rfl, a, _, rfl, .inl (SqL.of ha), fun wl fwl => ?_⟩
  have s1 := same_upd (o := .lst (ws.map V.str)) fwl
  have nwx : wl ≠ x := (ne_of_none hx fwl).symm
  refine ⟨_, rfl, x, T.C_Cursor, dx, [], rfl, s1 _ _ hx, T.cl_Cursor, T.n_Cursor__words, by show 0 < 1000; decide, ?_⟩
  have k2 : But x H (upd (upd H wl (.lst (ws.map V.str))) x (.ins T.C_Cursor dx [("_words", .ref wl)])) := fun b o n e => by rw [upd_ne n]; exact s1 _ _ e
  have x2 : upd (upd H wl (.lst (ws.map V.str))) x (.ins T.C_Cursor dx [("_words", .ref wl)]) x = some (.ins T.C_Cursor dx [("_words", .ref wl)]) := upd_same
  have w2 : upd (upd H wl (.lst (ws.map V.str))) x (.ins T.C_Cursor dx [("_words", .ref wl)]) wl = some (.lst (ws.map V.str)) := by rw [upd_ne nwx]; exact upd_same
  show tSeq _ _ _ _ (upd (upd H wl (.lst (ws.map V.str))) x (.ins T.C_Cursor dx [("_words", .ref wl)]))
  revert k2 x2 w2
  generalize upd (upd H wl (.lst (ws.map V.str))) x (.ins T.C_Cursor dx [("_words", .ref wl)]) = H2
  intro k2 x2 w2
  have no1 : o1 ≠ x := fun z => by rw [z, hx] at ho1; cases ho1
  have no2 : o2 ≠ x := fun z => by rw [z, hx] at ho2; cases ho2
  refine ⟨_, rfl, o1, _, rfl, .inl ⟨SqL.of (k2 _ _ no1 ho1), fun z1 fz1 => ?_⟩⟩
  have s3 := same_upd (o := .tup (os.map V.str)) fz1
  refine ⟨_, rfl, x, T.C_Cursor, dx, [("_words", .ref wl)], rfl, s3 _ _ x2, T.cl_Cursor, T.n_Cursor_options, by show 1 < 1000; decide, ?_⟩
  rw [pf_new (show ("options" : Str) ∉ (["_words"] : List Str) by decide +kernel)]
  have nz1 : z1 ≠ x := (ne_of_none x2 fz1).symm
  have f1 : H z1 = none := by
    cases e : H z1 with
    | none => rfl
    | some o => rw [k2 _ _ nz1 e] at fz1; cases fz1
  have k4 : But x H (upd (upd H2 z1 (.tup (os.map V.str))) x (.ins T.C_Cursor dx [("_words", .ref wl), ("options", .ref z1)])) := fun b o n e => by rw [upd_ne n]; exact s3 _ _ (k2 _ _ n e)
  have x4 : upd (upd H2 z1 (.tup (os.map V.str))) x (.ins T.C_Cursor dx [("_words", .ref wl), ("options", .ref z1)]) x = some (.ins T.C_Cursor dx [("_words", .ref wl), ("options", .ref z1)]) := upd_same
  have w4 : upd (upd H2 z1 (.tup (os.map V.str))) x (.ins T.C_Cursor dx [("_words", .ref wl), ("options", .ref z1)]) wl = some (.lst (ws.map V.str)) := by rw [upd_ne nwx]; exact s3 _ _ w2
  have z4 : upd (upd H2 z1 (.tup (os.map V.str))) x (.ins T.C_Cursor dx [("_words", .ref wl), ("options", .ref z1)]) z1 = some (.tup (os.map V.str)) := by rw [upd_ne nz1]; exact upd_same
  show tSeq _ _ _ _ (upd (upd H2 z1 (.tup (os.map V.str))) x (.ins T.C_Cursor dx [("_words", .ref wl), ("options", .ref z1)]))
  revert k4 x4 w4 z4
  generalize upd (upd H2 z1 (.tup (os.map V.str))) x (.ins T.C_Cursor dx [("_words", .ref wl), ("options", .ref z1)]) = H4
  intro k4 x4 w4 z4
  refine ⟨_, rfl, o2, _, rfl, .inl ⟨SqL.of (k4 _ _ no2 ho2), fun z2 fz2 => ?_⟩⟩
  have s5 := same_upd (o := .tup (us.map V.str)) fz2
  have nz2 : z2 ≠ x := (ne_of_none x4 fz2).symm
  have f2 : H z2 = none := by
    cases e : H z2 with
    | none => rfl
    | some o => rw [k4 _ _ nz2 e] at fz2; cases fz2
  refine ⟨_, rfl, x, T.C_Cursor, dx, [("_words", .ref wl), ("options", .ref z1)], rfl, s5 _ _ x4, T.cl_Cursor, T.n_Cursor_variables, by show 2 < 1000; decide, ?_⟩
  rw [pf_new (show ("variables" : Str) ∉ (["_words", "options"] : List Str) by decide +kernel)]
  refine ⟨_, rfl, _, rfl, x, T.C_Cursor, dx, [("_words", .ref wl), ("options", .ref z1), ("variables", .ref z2)], rfl, upd_same, T.cl_Cursor, T.n_Cursor_sees, by show 3 < 1000; decide, ?_⟩
  rw [pf_new (show ("sees" : Str) ∉ (["_words", "options", "variables"] : List Str) by decide +kernel), upd_upd]
  refine ⟨_, rfl, x, T.C_Cursor, dx, [("_words", .ref wl), ("options", .ref z1), ("variables", .ref z2), ("sees", .bl se)], rfl, upd_same, T.cl_Cursor, T.n_Cursor_at, by show 4 < 1000; decide, ?_⟩
  rw [pf_new (show ("at" : Str) ∉ (["_words", "options", "variables", "sees"] : List Str) by decide +kernel), upd_upd]
  refine q ⟨x, wl, z1, z2, os, us, ws, se⟩ _ (fun b o n e => by rw [upd_ne n]; exact s5 _ _ (k4 _ _ n e)) rfl rfl rfl rfl rfl fwl f1 f2 ⟨Nat.zero_le _, ⟨dx, upd_same⟩, ?_, ?_, ?_⟩
  · show upd _ x _ wl = _
    rw [upd_ne nwx]
    exact s5 _ _ w4
  · show upd _ x _ z1 = _
    rw [upd_ne nz1]
    exact s5 _ _ z4
  · show upd _ x _ z2 = _
    rw [upd_ne nz2]
    exact upd_same
/-! ### number_of -/
def sp_number_of (T : Txt K mg) : Sp := fun vs H Q _ => ∃ (x : Str), vs = [.str x] ∧ Asc x ∧ x.length ≤ 100 ∧ ∀ (r : V), NumR x r → Q r H

theorem ok_number_of (T : Txt K mg) : FnOk P w K mg base CX0 1 T.a_number_of T.d_number_of ["word"] (sp_number_of T) := by
  refine T.F_number_of.ok sc_number_of (fun vs H Q E h => ?_) (fun cdv A outer s H vs Q E hr h => ?_)
  · obtain ⟨x, rfl, _⟩ := h
    rfl
  obtain ⟨x, rfl, ha, hl, q⟩ := h
  refine ⟨_, (pss_cons (ps_if (PW.pt (pw_or (pt_cmpR op_gt (pe_callB call_len_str (by rfl) T.z_len (by first | exact PySem.boot_len | decide +kernel) (pa_cons (pv 0) pa_nil)) (pe_glob (by rfl) T.g_LONGEST_NUMBER T.r_LONGEST_NUMBER) (nomark _)) (pw_or (pt_not (pt_truth (pe_bm0 PySem.F.plainAttrs_str PySem.F.slot_str_isascii PySem.F.type_str_isascii mt_isascii (pv 0)) (fun _ => rfl))) (pw_or1 (pt_not (pt_truth (pe_bm0 PySem.F.plainAttrs_str PySem.F.slot_str_isdigit PySem.F.type_str_isdigit mt_isdigit (pv 0)) (fun _ => rfl))))))) (pss_one (ps_ret pe_non)) pss_nil)
      (pss_cons (ps_set (i := 1) sc_number_of.nd rfl (by first | exact Or.inl rfl | exact Or.inr rfl) (pe_callTy call_int_str (by rfl) T.z_int (by first | exact PySem.boot_int | decide +kernel) (pa_cons (pv 0) pa_nil)))
      (pss_cons (ps_if (PW.pt (pw_or (pt_cmpR op_gt (pv 1) (pe_glob (by rfl) T.g_GREATEST_NUMBER T.r_GREATEST_NUMBER) (nomark _)) (pw_or1 (pt_cmpR op_ne (pe_callTy call_str_int (by rfl) T.z_str (by first | exact PySem.boot_str | decide +kernel) (pa_cons (pv 1) pa_nil)) (pv 0) (nomark _))))) (pss_one (ps_ret pe_non)) pss_nil)
      (pss_one (ps_ret (pv 1)))))), ?_⟩
  have hx0 : x.length = x.cps.toList.length := rfl
  refine ⟨_, rfl, x, rfl, small_le (by omega), _, _, rfl, rfl, _, rfl, ite2 (fun c1 => ?_) (fun c1 => ?_)⟩
  · have c1' : (5 : Int) < (x.length : Int) := of_decide_eq_true c1
    refine q _ (.inr ⟨fun n hn e => ?_, rfl⟩)
    have := TL.numL_len (n := n) (k := 5) (by decide) (by omega)
    rw [← e] at this
    omega
  · refine ⟨_, rfl, rfl, x, rfl, rfl, trivial, _, rfl, ?_⟩
    rw [asc_isascii ha]
    refine iteF ?_
    refine ⟨_, rfl, rfl, x, rfl, rfl, trivial, _, rfl, ite2 (fun c2 => ?_) (fun c2 => ?_)⟩
    · refine q _ (.inr ⟨fun n hn e => ?_, rfl⟩)
      have : Txt.isdigit x = true := (isdigit_iff ha).mpr ⟨by rw [e]; exact TL.numL_digits n, by rw [e]; exact TL.numL_ne n⟩
      rw [this] at c2
      cases c2
    · have hd : Txt.isdigit x = true := by
        cases e : Txt.isdigit x with
        | true => rfl
        | false =>
          rw [e] at c2
          exact absurd rfl c2
      obtain ⟨hd1, hd2⟩ := (isdigit_iff ha).mp hd
      have hv := PySem.intText_digits hd1 hd2 (by omega)
      generalize ev : NumText.digitsVal x.cps.toList = v at hv
      have uniq : ∀ n, x.cps.toList = TL.numL n → n = v := fun n e => by rw [← ev, e, TL.numL_val]
      refine ⟨_, rfl, x, _, rfl, hv, by omega, ?_⟩
      refine ⟨_, rfl, _, _, rfl, rfl, _, rfl, ite2 (fun c3 => ?_) (fun c3 => ?_)⟩
      · have c3' : (65535 : Int) < (v : Int) := of_decide_eq_true c3
        refine q _ (.inr ⟨fun n hn e => ?_, rfl⟩)
        have := uniq n e
        omega
      · have c3' : ¬ (65535 : Int) < (v : Int) := fun z => c3 (decide_eq_true z)
        refine ⟨_, rfl, _, rfl, log_small (Nat.lt_of_le_of_lt (show v ≤ 65535 by omega) (by decide +kernel)), _, rfl, rfl, _, rfl, ite2 (fun c4 => ?_) (fun c4 => ?_)⟩
        · refine q _ (.inr ⟨fun n hn e => ?_, rfl⟩)
          have e1 := uniq n e
          subst e1
          rw [decide_eq_true (congrArg V.str (str_num e))] at c4
          cases c4
        · refine ⟨_, rfl, q _ (.inl ⟨v, by omega, ?_, rfl⟩)⟩
          by_cases y : V.str (Str.ofString (toString ((v : Nat) : Int))) = V.str x
          · exact num_str y
          · exact absurd (by rw [decide_eq_false y]; rfl) c4
/-! ### Cursor.word -/
def sp_Cursor_word (T : Txt K mg) : Sp := fun vs H Q _ => ∃ (c : CuI) (i : Nat), vs = [.ref c.a] ∧ CuX T.C_Cursor H c i ∧ Q (hereV c.ws i) H

theorem ok_Cursor_word (T : Txt K mg) : FnOk P w K mg base CX0 1 T.a_Cursor_word T.d_Cursor_word ["self"] (sp_Cursor_word T) := by
  refine T.F_Cursor_word.ok sc_Cursor_word (fun vs H Q E h => ?_) (fun cdv A outer s H vs Q E hr h => ?_)
  · obtain ⟨c, i, rfl, _⟩ := h
    rfl
  obtain ⟨c, i, rfl, ⟨hle, ⟨dx, ha⟩, hw, hz1, hz2⟩, q⟩ := h
  refine ⟨_, (pss_cons (ps_if (pt_cmpR op_lt (pe_fld (pv 0) rfl) (pe_callB call_len_seq (by rfl) T.z_len (by first | exact PySem.boot_len | decide +kernel) (pa_cons (pe_fld (pv 0) rfl) pa_nil)) (nomark _)) (pss_one (ps_ret (pe_ix ix_list (pe_fld (pv 0) rfl) (pe_fld (pv 0) rfl) (fun _ _ => rfl)))) pss_nil)
      (pss_one (ps_ret pe_non))), ?_⟩
  refine ⟨_, rfl, c.a, T.C_Cursor, dx, _, _, rfl, ha, T.cl_Cursor, T.n_Cursor_at, lk_ix cgNd 4 rfl, _, rfl, c.a, T.C_Cursor, dx, _, _, rfl, ha, T.cl_Cursor, T.n_Cursor__words, lk_ix cgNd 0 rfl, c.wl, _, rfl, .inl (SqL.of hw), _, _, rfl, rfl, _, rfl, ite2 (fun z => ?_) (fun z => ?_)⟩
  · have c' : (i : Int) < (((c.ws.map V.str).length : Nat) : Int) := of_decide_eq_true z
    rw [List.length_map] at c'
    have hl : i < c.ws.length := by omega
    have e : c.ws[i]? = some c.ws[i] := List.getElem?_eq_getElem hl
    have eq : hereV c.ws i = .str c.ws[i] := by unfold hereV; rw [e]
    rw [eq] at q
    exact ⟨_, rfl, c.a, T.C_Cursor, dx, _, _, rfl, ha, T.cl_Cursor, T.n_Cursor__words, lk_ix cgNd 0 rfl, _, rfl, c.a, T.C_Cursor, dx, _, _, rfl, ha, T.cl_Cursor, T.n_Cursor_at, lk_ix cgNd 4 rfl, c.wl, _, _, _, rfl, rfl, SqL.of hw, at_ofG (j := i) rfl (by rw [List.getElem?_map, e]; rfl), q⟩
  · have c' : ¬ (i : Int) < (((c.ws.map V.str).length : Nat) : Int) := fun y => z (decide_eq_true y)
    rw [List.length_map] at c'
    have eq : hereV c.ws i = .non := by unfold hereV; rw [List.getElem?_eq_none (by omega)]
    rw [eq] at q
    exact q
/-! ### Cursor._pass_if@x -/
def sp_Cursor_pass_if_x (T : Txt K mg) : Sp := fun vs H Q E => ∃ (c : CuI) (i : Nat) (b : Bool), vs = [.ref c.a, .bl b] ∧ CuX T.C_Cursor H c i ∧ i < 100000 ∧ (b = true → i + 1 ≤ c.ws.length) ∧ (b = true → ∀ H', But c.a H H' → CuX T.C_Cursor H' c (i + 1) → Q .non H') ∧
  (b = false → ∀ d H', Same H H' → H d = none → H' d = some (.xd [("at", .int (i : Nat))]) → E (.ref T.C_BadText) (some d) H')

theorem ok_Cursor_pass_if_x (T : Txt K mg) : FnOk P w K mg base (L2.CX P w) 4 T.a_Cursor_pass_if T.d_Cursor_pass_if ["self", "fits"] (sp_Cursor_pass_if_x T) := by
  refine T.F_Cursor_pass_if.okX sc_Cursor_pass_if (fun vs H Q E h => ?_) (fun cdv A outer s H vs Q E hr h => ?_)
  · obtain ⟨c, i, b, rfl, _⟩ := h
    rfl
  obtain ⟨c, i, b, rfl, ⟨hle, ⟨dx, ha⟩, hw, hz1, hz2⟩, hi, hlt, k1, k2⟩ := h
  refine ⟨_, (pss_cons (ps_if (pt_not (pt_truth (pv 1) (fun _ => rfl))) (pss_one (ps_raise rfl (takes_of rfl rfl rfl rfl) (pmk_oex T.e_BadText.ox T.e_BadText.ini T.e_BadText.ty (ok_BadText_init T) (hr.mono (by decide)) T.b_BadText_init .nil pass0 (by rfl) T.m_BadText (pa_cons (pe_fld (pv 0) rfl) pa_nil)))) pss_nil)
      (pss_one (ps_fldaug (pv 0) pe_int in_add))), ?_⟩
  have nw : c.wl ≠ c.a := fun z => by rw [z, ha] at hw; cases hw
  have n1 : c.z1 ≠ c.a := fun z => by rw [z, ha] at hz1; cases hz1
  have n2 : c.z2 ≠ c.a := fun z => by rw [z, ha] at hz2; cases hz2
  refine ⟨_, rfl, _, rfl, ?_⟩
  cases b with
  | false =>
    refine iteT ?_
    exact ⟨_, rfl, c.a, T.C_Cursor, dx, _, _, rfl, ha, T.cl_Cursor, T.n_Cursor_at, lk_ix cgNd 4 rfl, raise_ok ⟨_, rfl, by omega, by omega⟩ (k2 rfl)⟩
  | true =>
    refine iteF ?_
    refine ⟨_, rfl, c.a, T.C_Cursor, dx, _, _, rfl, ha, T.cl_Cursor, T.n_Cursor_at, lk_ix cgNd 4 rfl, _, _, rfl, rfl, dx, _, ha, by show 5 < 1000; decide, ?_⟩
    rw [pf_ix cgNd 4 rfl]
    refine k1 rfl _ but_upd ⟨hlt rfl, ⟨dx, ?_⟩, by rw [upd_ne nw]; exact hw, by rw [upd_ne n1]; exact hz1, by rw [upd_ne n2]; exact hz2⟩
    rw [upd_same]
    rfl
/-! ### Cursor.take_word@x -/
def sp_Cursor_take_word_x (T : Txt K mg) : Sp := fun vs H Q E => ∃ (c : CuI) (i : Nat) (w : Str), vs = [.ref c.a, .str w] ∧ CuX T.C_Cursor H c i ∧ i < 100000 ∧ DeedX T.C_Cursor T.C_BadText H c i (.word w) Q E

theorem ok_Cursor_take_word_x (T : Txt K mg) : FnOk P w K mg base (L2.CX P w) 5 T.a_Cursor_take_word T.d_Cursor_take_word ["self", "word"] (sp_Cursor_take_word_x T) := by
  refine T.F_Cursor_take_word.okX sc_Cursor_take_word (fun vs H Q E h => ?_) (fun cdv A outer s H vs Q E hr h => ?_)
  · obtain ⟨c, i, w, rfl, _⟩ := h
    rfl
  obtain ⟨c, i, w, rfl, hC, hi, k1, k2⟩ := h
  refine ⟨_, (pss_one (ps_expr (pe_methT (pv 0) T.cl_Cursor T.me_Cursor_pass_if (ok_Cursor_pass_if_x T) (hr.mono (by decide)) T.b_Cursor_pass_if .nil (fun σ => passAt (takes_of rfl rfl rfl rfl) σ) (pa_cons (pe_cmpR op_eq (pe_prop (pv 0) T.cl_Cursor T.pr_Cursor_word (ok_Cursor_word T) (hr.mono (by decide)) T.b_Cursor_word .nil pass0 rfl) (pv 1) (nomark _)) pa_nil)))), ?_⟩
  obtain ⟨hle, ⟨dx, ha⟩, hw, hz1, hz2⟩ := id hC
  refine ⟨_, rfl, c.a, dx, _, rfl, ha, cg_no cu_meths.1, _, rfl, c.a, dx, _, rfl, ha, c, i, rfl, hC, _, rfl, here_scal, ?_⟩
  refine ⟨c, i, _, rfl, hC, hi, fun hb => ?_, fun hb H' b z => ?_, fun hb => k2 fun x v e f => ?_⟩
  · have e : hereV c.ws i = .str w := of_decide_eq_true hb
    unfold hereV at e
    split at e
    · rename_i x hx
      exact here_lt hx
    · cases e
  · have e : hereV c.ws i = .str w := of_decide_eq_true hb
    unfold hereV at e
    split at e
    · rename_i x hx
      exact k1 x .non hx ⟨V.str.inj e, rfl⟩ H' b z
    · cases e
  · have e2 : hereV c.ws i = .str w := by unfold hereV; rw [e, f.1]
    rw [decide_eq_true e2] at hb
    cases hb
/-! ### Cursor.take_number@x -/
def sp_Cursor_take_number_x (T : Txt K mg) : Sp := fun vs H Q E => ∃ (c : CuI) (i : Nat) (l m : Int), vs = [.ref c.a, .int l, .int m] ∧ CuX T.C_Cursor H c i ∧ i < 100000 ∧ Wds c.ws ∧ DeedX T.C_Cursor T.C_BadText H c i (.num l m) Q E

theorem ok_Cursor_take_number_x (T : Txt K mg) : FnOk P w K mg base (L2.CX P w) 5 T.a_Cursor_take_number T.d_Cursor_take_number ["self", "least", "most"] (sp_Cursor_take_number_x T) := by
  refine T.F_Cursor_take_number.okX sc_Cursor_take_number (fun vs H Q E h => ?_) (fun cdv A outer s H vs Q E hr h => ?_)
  · obtain ⟨c, i, l, m, rfl, _⟩ := h
    rfl
  obtain ⟨c, i, l, m, rfl, hC, hi, hW, k1, k2⟩ := h
  refine ⟨_, (pss_cons (ps_set (i := 3) sc_Cursor_take_number.nd rfl (by first | exact Or.inl rfl | exact Or.inr rfl) (pe_prop (pv 0) T.cl_Cursor T.pr_Cursor_word (ok_Cursor_word T) (hr.mono (by decide)) T.b_Cursor_word .nil pass0 rfl))
      (C8.pss_cut (ps_set (i := 4) sc_Cursor_take_number.nd rfl (by first | exact Or.inl rfl | exact Or.inr rfl) (pe_ifExp (pt_cmpR op_isN (pv 3) pe_non (nomark _)) pe_non (pe_call (ok_number_of T) (hr.mono (by decide)) (by rfl) T.m_number_of T.F_number_of.kp T.b_number_of .nil pass0 (pa_cons (pv 3) pa_nil))))
      (pss_cons (ps_expr (pe_methT (pv 0) T.cl_Cursor T.me_Cursor_pass_if (ok_Cursor_pass_if_x T) (hr.mono (by decide)) T.b_Cursor_pass_if .nil (fun σ => passAt (takes_of rfl rfl rfl rfl) σ) (pa_cons (pe_and (pe_cmpR op_notN (pv 4) pe_non (nomark _)) (pe_one (pe_chain op_le op_le (pv 1) (pv 4) (pv 2)))) pa_nil)))
      (pss_one (ps_ret (pv 4)))))), ?_⟩
  obtain ⟨hle, ⟨dx, ha⟩, hw, hz1, hz2⟩ := id hC
  refine ⟨_, rfl, c.a, dx, _, rfl, ha, c, i, rfl, hC, ?_⟩
  refine ⟨fun σ' H' => ∃ r : V, σ' = [some (.ref c.a), some (.int l), some (.int m), some (hereV c.ws i), some r] ∧ H' = H ∧ ((c.ws[i]? = none ∧ r = .non) ∨ ∃ x, c.ws[i]? = some x ∧ NumR x r), ?_, ?_⟩
  · cases e : c.ws[i]? with
    | none =>
      have eh : hereV c.ws i = .non := by unfold hereV; rw [e]
      rw [eh]
      exact ⟨_, rfl, rfl, _, rfl, iteT ⟨_, rfl, rfl, .inl ⟨rfl, rfl⟩⟩⟩
    | some x =>
      have eh : hereV c.ws i = .str x := by unfold hereV; rw [e]
      rw [eh]
      have hx := hW x (List.mem_of_getElem? e)
      exact ⟨_, rfl, rfl, _, rfl, iteF ⟨_, rfl, x, rfl, hx.1, hx.2, fun r hr => ⟨_, rfl, rfl, .inr ⟨x, rfl, hr⟩⟩⟩⟩
  rintro σ1 H1 ⟨r, rfl, rfl, hr'⟩
  refine ⟨_, rfl, c.a, dx, _, rfl, ha, cg_no cu_meths.1, _, rfl, rfl, _, rfl, ?_⟩
  have non : (c.ws[i]? = none ∨ ∃ x, c.ws[i]? = some x ∧ ∀ n : Nat, n ≤ 65535 → x.cps.toList ≠ TL.numL n) → ∀ x v, c.ws[i]? = some x → ¬ Fit (.num l m) x v := fun h x v e f => by
    obtain ⟨n, h1, h2, _⟩ := f
    rcases h with h | ⟨y, h, g⟩
    · rw [h] at e; cases e
    · rw [h] at e
      cases e
      exact g n h1 h2
  have fail : r = .non → (c.ws[i]? = none ∨ ∃ x, c.ws[i]? = some x ∧ ∀ n : Nat, n ≤ 65535 → x.cps.toList ≠ TL.numL n) := fun z => by
    rcases hr' with ⟨h, _⟩ | ⟨x, h, ⟨n, _, _, g⟩ | ⟨g, _⟩⟩
    · exact .inl h
    · rw [z] at g
      cases g
    · exact .inr ⟨x, h, g⟩
  by_cases z : r = .non
  · have := non (fail z)
    subst z
    refine iteF ?_
    refine ⟨c, i, _, rfl, hC, hi, fun hb => Bool.noConfusion hb, fun hb => Bool.noConfusion hb, fun _ => k2 this⟩
  · obtain ⟨x, e, n, n1, n2, rfl⟩ : ∃ x, c.ws[i]? = some x ∧ ∃ n : Nat, n ≤ 65535 ∧ x.cps.toList = TL.numL n ∧ r = .int n := by
      rcases hr' with ⟨_, h⟩ | ⟨x, h, g | ⟨_, g⟩⟩
      · exact absurd h z
      · exact ⟨x, h, g⟩
      · exact absurd g z
    refine iteT ?_
    have bad : ¬ (l ≤ (n : Int) ∧ (n : Int) ≤ m) → ∀ x v, c.ws[i]? = some x → ¬ Fit (.num l m) x v := fun h x' v e' f => by
      rw [e] at e'
      cases e'
      obtain ⟨n', g1, g2, g3, g4, _⟩ := f
      have := TL.numL_inj (n2.symm.trans g2)
      subst this
      exact h ⟨g3, g4⟩
    refine ⟨_, rfl, _, rfl, _, _, rfl, rfl, _, rfl, ite2 (fun c1 => ?_) (fun c1 => ?_)⟩
    · refine ⟨_, rfl, _, _, rfl, rfl, ?_⟩
      exact ⟨c, i, _, rfl, hC, hi, fun _ => here_lt e, fun h H' b y => ⟨_, rfl, k1 x (.int n) e ⟨n, n1, n2, of_decide_eq_true c1, of_decide_eq_true h, rfl⟩ H' b y⟩, fun h => k2 (bad fun g => by
        rw [decide_eq_true g.2] at h
        cases h)⟩
    · exact ⟨c, i, _, rfl, hC, hi, fun h => Bool.noConfusion h, fun h => Bool.noConfusion h, fun _ => k2 (bad fun g => c1 (decide_eq_true g.1))⟩
/-! ### Cursor.take_name@x -/
def sp_Cursor_take_name_x (T : Txt K mg) : Sp := fun vs H Q E => ∃ (c : CuI) (pn : Addr) (ns : List Str) (i : Nat), vs = [.ref c.a, .ref pn] ∧ CuX T.C_Cursor H c i ∧ (SqL K H pn (ns.map V.str) ∨ SqT K H pn (ns.map V.str)) ∧ i < 100000 ∧ DeedX T.C_Cursor T.C_BadText H c i (.name ns) Q E

theorem ok_Cursor_take_name_x (T : Txt K mg) : FnOk P w K mg base (L2.CX P w) 5 T.a_Cursor_take_name T.d_Cursor_take_name ["self", "names"] (sp_Cursor_take_name_x T) := by
  refine T.F_Cursor_take_name.okX sc_Cursor_take_name (fun vs H Q E h => ?_) (fun cdv A outer s H vs Q E hr h => ?_)
  · obtain ⟨c, pn, ns, i, rfl, _⟩ := h
    rfl
  obtain ⟨c, pn, ns, i, rfl, hC, hn, hi, k1, k2⟩ := h
  refine ⟨_, (pss_cons (ps_set (i := 2) sc_Cursor_take_name.nd rfl (by first | exact Or.inl rfl | exact Or.inr rfl) (pe_prop (pv 0) T.cl_Cursor T.pr_Cursor_word (ok_Cursor_word T) (hr.mono (by decide)) T.b_Cursor_word .nil pass0 rfl))
      (pss_cons (ps_expr (pe_methT (pv 0) T.cl_Cursor T.me_Cursor_pass_if (ok_Cursor_pass_if_x T) (hr.mono (by decide)) T.b_Cursor_pass_if .nil (fun σ => passAt (takes_of rfl rfl rfl rfl) σ) (pa_cons (pe_and (pe_cmpR op_notN (pv 2) pe_non (nomark _)) (pe_one (pe_cmpR op_in_seq (pv 2) (pv 1) (by with_unfolding_all rfl)))) pa_nil)))
      (pss_one (ps_ret (pv 2))))), ?_⟩
  obtain ⟨hle, ⟨dx, ha⟩, hw, hz1, hz2⟩ := id hC
  refine ⟨_, rfl, c.a, dx, _, rfl, ha, c, i, rfl, hC, ?_⟩
  refine ⟨_, rfl, c.a, dx, _, rfl, ha, cg_no cu_meths.1, _, rfl, rfl, _, rfl, ?_⟩
  cases e : c.ws[i]? with
  | none =>
    have eh : hereV c.ws i = .non := by unfold hereV; rw [e]
    rw [eh]
    refine iteF ?_
    refine ⟨c, i, _, rfl, hC, hi, fun hb => Bool.noConfusion hb, fun hb => Bool.noConfusion hb, fun _ => k2 fun x v e' _ => by rw [e] at e'; cases e'⟩
  | some x =>
    have eh : hereV c.ws i = .str x := by unfold hereV; rw [e]
    rw [eh]
    refine iteT ?_
    refine ⟨_, rfl, _, rfl, pn, ns.map V.str, rfl, hn, rfl, strs_flat ns, ?_⟩
    refine ⟨c, i, _, rfl, hC, hi, fun _ => here_lt e, fun hb H' b z => ⟨_, rfl, k1 x (.str x) e ⟨inv_t hb, rfl⟩ H' b z⟩, fun hb => k2 fun x' v e' f' => ?_⟩
    rw [e] at e'
    cases e'
    rw [inV_strs, decide_eq_true f'.1] at hb
    cases hb
/-! ### _openings -/
def sp_openings (T : Txt K mg) : Sp := fun vs H Q _ => ∃ (c : CuI) (i k : Nat), vs = [.ref c.a, .int ((k : Nat) : Int)] ∧ CuX T.C_Cursor H c i ∧ ∀ (p : Addr) (H' : Hp), Same H H' → H p = none → H' p = some (.lst ((opens c.se (!c.ops.isEmpty) k).map V.str)) → Q (.ref p) H'

theorem ok_openings (T : Txt K mg) : FnOk P w K mg base CX0 1 T.a_openings T.d_openings ["cursor", "room"] (sp_openings T) := by
  refine T.F_openings.ok sc_openings (fun vs H Q E h => ?_) (fun cdv A outer s H vs Q E hr h => ?_)
  · obtain ⟨c, i, k, rfl, _⟩ := h
    rfl
  obtain ⟨c, i, k, rfl, hC, q⟩ := h
  refine ⟨_, (pss_cons (ps_set (i := 2) sc_openings.nd rfl (by first | exact Or.inl rfl | exact Or.inr rfl) (pe_lst pa_nil))
      (C8.pss_cut (ps_if (pt_truth (pe_fld (pv 0) rfl) (fun _ => rfl)) (pss_one (ps_expr (pe_bm PySem.F.plainAttrs_list PySem.F.slot_list_append PySem.F.type_list_append mt_append (pv 2) (pa_cons pe_str pa_nil)))) pss_nil)
      (pss_cons (ps_if (pt_cmpR op_gt (pv 1) pe_int (nomark _)) (pss_cons (ps_expr (pe_bm PySem.F.plainAttrs_list PySem.F.slot_list_extend PySem.F.type_list_extend mt_extendT (pv 2) (pa_cons (pe_glob (v := .ref T.A_OPERATORS) (by rfl) T.g_OPERATORS rfl) pa_nil)))
      (C8.pss_cut (ps_if (pt_truth (pe_fld (pv 0) rfl) (fun _ => rfl)) (pss_one (ps_expr (pe_bm PySem.F.plainAttrs_list PySem.F.slot_list_append PySem.F.type_list_append mt_append (pv 2) (pa_cons pe_str pa_nil)))) pss_nil)
      (pss_one (ps_if (pt_truth (pe_fld (pv 0) rfl) (fun _ => rfl)) (pss_one (ps_expr (pe_bm PySem.F.plainAttrs_list PySem.F.slot_list_append PySem.F.type_list_append mt_append (pv 2) (pa_cons pe_str pa_nil)))) pss_nil)))) pss_nil)
      (pss_one (ps_ret (pv 2)))))), ?_⟩
  refine ⟨by show 0 ≤ sizeLine; decide, fun W fW => ?_⟩
  have sW := same_upd (o := .lst []) fW
  refine ⟨fun σ' H' => σ' = [some (.ref c.a), some (.int ((k : Nat) : Int)), some (.ref W)] ∧ Same H H' ∧ H' W = some (.lst ((if c.se = true then (["long"] : List Str) else []).map V.str)), ?_, ?_⟩
  · obtain ⟨hle, ⟨dx, ha⟩, hw, hz1, hz2⟩ := hC.same sW
    refine ⟨_, rfl, c.a, T.C_Cursor, dx, _, _, rfl, ha, T.cl_Cursor, T.n_Cursor_sees, lk_ix cgNd 3 rfl, _, rfl, ite2 (fun y => ?_) (fun y => ⟨rfl, sW, by rw [if_neg y]; exact upd_same⟩)⟩
    refine ⟨_, rfl, .inl ⟨rfl, _, SqL.of upd_same⟩, W, _, _, rfl, rfl, upd_same, small1000 (by show 0 ≤ 1000; decide), ?_⟩
    exact ⟨rfl, same_at sW fW, by rw [if_pos y]; exact upd_same⟩
  rintro σ1 H1 ⟨rfl, s1, e1⟩
  refine ⟨_, rfl, _, _, rfl, rfl, _, rfl, ite2 (fun y => ?_) (fun y => ?_)⟩
  rotate_left
  · have y' : ¬ (1 : Int) < ((k : Nat) : Int) := fun z => y (decide_eq_true z)
    refine ⟨_, rfl, q W H1 s1 fW ?_⟩
    rw [e1]
    unfold opens
    rw [if_neg (show ¬ 1 < k by omega), List.append_nil]
  · have y' : (1 : Int) < ((k : Nat) : Int) := of_decide_eq_true y
    have l1 : ((if c.se = true then (["long"] : List Str) else []).map V.str).length ≤ 1 := by split <;> decide
    refine ⟨_, rfl, .inl ⟨rfl, _, SqL.of e1⟩, W, T.A_OPERATORS, _, _, rfl, rfl, e1, T.q_OPERATORS _, small_le (by have : (opL.map V.str).length = 7 := rfl; show _ + (opL.map V.str).length ≤ 1000; omega), ?_⟩
    have e2 : upd H1 W (.lst ((if c.se = true then (["long"] : List Str) else []).map V.str ++ opL.map V.str)) W = some (.lst (((if c.se = true then (["long"] : List Str) else []) ++ opL).map V.str)) := by rw [upd_same, List.map_append]
    have s2 : Same H (upd H1 W (.lst ((if c.se = true then (["long"] : List Str) else []).map V.str ++ opL.map V.str))) := same_at s1 fW
    show tSeq _ _ _ _ (upd H1 W (.lst ((if c.se = true then (["long"] : List Str) else []).map V.str ++ opL.map V.str)))
    revert e2 s2
    generalize upd H1 W (.lst ((if c.se = true then (["long"] : List Str) else []).map V.str ++ opL.map V.str)) = H2
    intro e2 s2
    refine ⟨fun σ' H' => σ' = [some (.ref c.a), some (.int ((k : Nat) : Int)), some (.ref W)] ∧ Same H H' ∧ H' W = some (.lst ((((if c.se = true then (["long"] : List Str) else []) ++ opL) ++ (if (!c.ops.isEmpty) = true then (["pick"] : List Str) else [])).map V.str)), ?_, ?_⟩
    · obtain ⟨hle, ⟨dx, ha⟩, hw, hz1, hz2⟩ := hC.same s2
      have em : (!(c.ops.map V.str).isEmpty) = !c.ops.isEmpty := by cases c.ops <;> rfl
      refine ⟨_, rfl, c.a, T.C_Cursor, dx, _, _, rfl, ha, T.cl_Cursor, T.n_Cursor_options, lk_ix cgNd 1 rfl, _, .inr (.inl ⟨_, SqT.of hz1, em.symm⟩), ite2 (fun y => ?_) (fun y => ⟨rfl, s2, by rw [if_neg y, List.append_nil]; exact e2⟩)⟩
      refine ⟨_, rfl, .inl ⟨rfl, _, SqL.of e2⟩, W, _, _, rfl, rfl, e2, by rw [List.length_map, List.length_append]; rw [List.length_map] at l1; exact small1000 (by have : opL.length = 7 := rfl; omega), ?_⟩
      refine ⟨rfl, same_at s2 fW, ?_⟩
      rw [if_pos y, upd_same, List.map_append (l₁ := (if c.se = true then (["long"] : List Str) else []) ++ opL)]
      rfl
    rintro σ3 H3 ⟨rfl, s3, e3⟩
    obtain ⟨hle, ⟨dx, ha⟩, hw, hz1, hz2⟩ := hC.same s3
    refine ⟨_, rfl, c.a, T.C_Cursor, dx, _, _, rfl, ha, T.cl_Cursor, T.n_Cursor_sees, lk_ix cgNd 3 rfl, _, rfl, ite2 (fun y => ?_) (fun y => ?_)⟩
    · refine ⟨_, rfl, .inl ⟨rfl, _, SqL.of e3⟩, W, _, _, rfl, rfl, e3, ?_, ?_⟩
      · rw [List.length_map, List.length_append, List.length_append]
        rw [List.length_map] at l1
        have : (if (!c.ops.isEmpty) = true then (["pick"] : List Str) else []).length ≤ 1 := by split <;> decide
        exact small1000 (by have : opL.length = 7 := rfl; omega)
      · refine ⟨_, rfl, q W _ (same_at s3 fW) fW ?_⟩
        rw [upd_same]
        unfold opens
        rw [if_pos (show 1 < k by omega)]
        have y2 : c.se = true := y
        rw [if_pos y2, if_pos y2]
        simp [List.map_append]
    · refine ⟨_, rfl, q W _ s3 fW ?_⟩
      rw [e3]
      unfold opens
      rw [if_pos (show 1 < k by omega), if_neg y, if_neg y, List.append_nil, List.nil_append, List.nil_append]
/-! ### _read_parts@x -/
def sp_read_expression_x (T : Txt K mg) (n : Nat) : Sp := fun vs H Q E => ∃ (c : CuI) (i k : Nat), vs = [.ref c.a, .int ((k : Nat) : Int)] ∧ 1 ≤ k ∧ k ≤ n ∧ CuX T.C_Cursor H c i ∧ Wds c.ws ∧ c.ws.length < 90000 ∧ RdK T.C_Cursor T.C_BadText H c (readM c k i) Q E
theorem no_read_expression_x (T : Txt K mg) : ∀ vs H Q E, ¬ sp_read_expression_x T 0 vs H Q E := fun vs H Q E ⟨_, _, _, _, h1, h2, _⟩ => by omega

def sp_read_parts_x (T : Txt K mg) (n : Nat) : Sp := fun vs H Q E => ∃ (c : CuI) (i k : Nat) (x : Str), vs = [.ref c.a, .str x, .int ((k : Nat) : Int)] ∧ k ≤ n ∧ (x ≠ "long" → 1 ≤ k) ∧ CuX T.C_Cursor H c i ∧ Wds c.ws ∧ c.ws.length < 90000 ∧ RdK T.C_Cursor T.C_BadText H c (partsR c (readM c k) x i) Q E

theorem ok_read_parts_x (T : Txt K mg) {n : Nat} (G : FnOk P w K mg base (L2.CX P w) (5 + 2 * n) T.a_read_expression T.d_read_expression ["cursor", "room"] (sp_read_expression_x T n)) : FnOk P w K mg base (L2.CX P w) (5 + 2 * n + 1) T.a_read_parts T.d_read_parts ["cursor", "word", "room"] (sp_read_parts_x T n) := by
  refine T.F_read_parts.okX sc_read_parts (fun vs H Q E h => ?_) (fun cdv A outer s H vs Q E hr h => ?_)
  · obtain ⟨c, i, k, x, rfl, _⟩ := h
    rfl
  obtain ⟨c, i, k, x, rfl, hk, hx, hC, hW, hl, q⟩ := h
  refine ⟨_, (pss_cons (ps_if (pt_cmpR op_eq (pv 1) pe_str (nomark _)) (pss_one (ps_ret (pe_tup (pa_cons pe_str pa_nil)))) pss_nil)
      (pss_cons (ps_if (pt_cmpR op_eq (pv 1) pe_str (nomark _)) (pss_one (ps_ret (pe_tup (pa_cons pe_str (pa_cons (pe_callNT G (hr.mono (by omega)) (by rfl) T.m_read_expression T.F_read_expression.kp T.kb_read_expression (fun σ => passAt (takes_of rfl rfl rfl rfl) σ) (pa_cons (pv 0) pa_nil) (pk_cons (pv 2) pk_nil)) pa_nil))))) pss_nil)
      (C8.pss_cut (ps_set (i := 3) sc_read_parts.nd rfl (by first | exact Or.inl rfl | exact Or.inr rfl) (pe_ifExp (pt_cmpR op_eq (pv 1) pe_str (nomark _)) (pe_methT (pv 0) T.cl_Cursor T.me_Cursor_take_name (ok_Cursor_take_name_x T) (hr.mono (by omega)) T.b_Cursor_take_name .nil (fun σ => passAt (takes_of rfl rfl rfl rfl) σ) (pa_cons (pe_fld (pv 0) rfl) pa_nil)) pe_non))
      (pss_cons (ps_set (i := 4) sc_read_parts.nd rfl (by first | exact Or.inl rfl | exact Or.inr rfl) (pe_callNT G (hr.mono (by omega)) (by rfl) T.m_read_expression T.F_read_expression.kp T.kb_read_expression (fun σ => passAt (takes_of rfl rfl rfl rfl) σ) (pa_cons (pv 0) pa_nil) (pk_cons (pv 2) pk_nil)))
      (pss_cons (ps_set (i := 5) sc_read_parts.nd rfl (by first | exact Or.inl rfl | exact Or.inr rfl) (pe_callNT G (hr.mono (by omega)) (by rfl) T.m_read_expression T.F_read_expression.kp T.kb_read_expression (fun σ => passAt (takes_of rfl rfl rfl rfl) σ) (pa_cons (pv 0) pa_nil) (pk_cons (pv 2) pk_nil)))
      (pss_one (ps_ret (pe_ifExp (pt_cmpR op_isN (pv 3) pe_non (nomark _)) (pe_tup (pa_cons (pv 1) (pa_cons (pv 4) (pa_cons (pv 5) pa_nil)))) (pe_tup (pa_cons (pv 1) (pa_cons (pv 3) (pa_cons (pv 4) (pa_cons (pv 5) pa_nil))))))))))))), ?_⟩
  obtain ⟨hle, ⟨dx, ha⟩, hw, hz1, hz2⟩ := id hC
  by_cases xl : x = "long"
  · subst xl
    refine ⟨_, rfl, rfl, _, rfl, iteS ⟨by show 1 ≤ sizeLine; decide, fun U fU => ?_⟩⟩
    unfold partsR at q
    rw [if_pos rfl] at q
    exact q _ _ (but_of (same_upd fU)) (.long upd_same) (hC.same (same_upd fU))
  have k1 := hx xl
  refine ⟨_, rfl, rfl, _, rfl, iteN xl ?_⟩
  by_cases xv : x = "view"
  · subst xv
    unfold partsR at q
    rw [if_neg xl, if_pos rfl] at q
    refine ⟨_, rfl, rfl, _, rfl, iteS ?_⟩
    refine ⟨_, rfl, _, rfl, rfl, rfl, c, i, k, rfl, k1, hk, hC, hW, hl, ?_⟩
    unfold oneR at q
    cases e1 : readM c k i with
    | bad j =>
      rw [e1] at q
      exact q
    | ok e j =>
      rw [e1] at q
      refine fun v H1 b1 ev C1 => ⟨by show 2 ≤ sizeLine; decide, fun U fU => ?_⟩
      exact q _ _ (b1.trans (but_of (same_upd fU))) (.view upd_same (ev.keep (keepT_of (same_upd fU)))) (C1.same (same_upd fU))
  refine ⟨_, rfl, rfl, _, rfl, iteN xv ?_⟩
  refine ⟨fun σ' H' => ∃ (op : V) (f : Ex → Ex → Ex) (j : Nat), σ' = [some (.ref c.a), some (.str x), some (.int ((k : Nat) : Int)), some op, none, none] ∧ But c.a H H' ∧ CuX T.C_Cursor H' c j ∧ RdK T.C_Cursor T.C_BadText H' c (twoR f (readM c k) j) Q E ∧
    ((op = .non ∧ f = .op x) ∨ ∃ o, op = .str o ∧ f = .pick o ∧ x = "pick"), ?_, ?_⟩
  · unfold partsR at q
    rw [if_neg xl, if_neg xv] at q
    by_cases xp : x = "pick"
    · subst xp
      rw [if_pos rfl] at q
      refine ⟨_, rfl, rfl, _, rfl, iteS ?_⟩
      refine ⟨_, rfl, c.a, dx, _, rfl, ha, cg_no cu_meths.2.2.2.1, _, rfl, c.a, T.C_Cursor, dx, _, _, rfl, ha, T.cl_Cursor, T.n_Cursor_options, lk_ix cgNd 1 rfl, c, c.z1, c.ops, i, rfl, hC, .inr (SqT.of hz1), by omega, fun o v eo f H1 b1 C1 => ?_, fun no d H1 s1 nd hd => ?_⟩
      · obtain ⟨mo, rfl⟩ := f
        rw [eo] at q
        have q' : RdK T.C_Cursor T.C_BadText H c (twoR (.pick o) (readM c k) (i + 1)) Q E := by
          have q2 : RdK T.C_Cursor T.C_BadText H c (if o ∈ c.ops then twoR (.pick o) (readM c k) (i + 1) else .bad i) Q E := q
          rw [if_pos mo] at q2
          exact q2
        exact ⟨_, _, _, rfl, b1, C1, q'.mono b1, .inr ⟨o, rfl, rfl, rfl⟩⟩
      · have q' : RdK T.C_Cursor T.C_BadText H c (.bad i) Q E := by
          cases eo : c.ws[i]? with
          | none => rw [eo] at q; exact q
          | some o =>
            rw [eo] at q
            have q2 : RdK T.C_Cursor T.C_BadText H c (if o ∈ c.ops then twoR (.pick o) (readM c k) (i + 1) else .bad i) Q E := q
            rw [if_neg (fun mo => no o (.str o) eo ⟨mo, rfl⟩)] at q2
            exact q2
        exact q' d H1 (but_of s1) hd
    · rw [if_neg xp] at q
      refine ⟨_, rfl, rfl, _, rfl, iteN xp ?_⟩
      exact ⟨_, _, _, rfl, But.refl _ _, hC, q, .inl ⟨rfl, rfl⟩⟩
  rintro σ1 H1 ⟨op, f, j, rfl, b1, C1, q1, hf⟩
  clear q hC ha hw hz1 hz2
  refine ⟨_, rfl, _, rfl, rfl, rfl, c, j, k, rfl, k1, hk, C1, hW, hl, ?_⟩
  unfold twoR at q1
  cases e1 : readM c k j with
  | bad j1 =>
    rw [e1] at q1
    exact q1
  | ok e j1 =>
    rw [e1] at q1
    refine fun v H2 b2 ev C2 => ?_
    refine ⟨_, rfl, _, rfl, rfl, rfl, c, j1, k, rfl, k1, hk, C2, hW, hl, ?_⟩
    cases e2 : readM c k j1 with
    | bad j2 =>
      have q2 : RdK T.C_Cursor T.C_BadText H1 c (match readM c k j1 with
        | .bad j' => .bad j'
        | .ok b j' => .ok (f e b) j') Q E := q1
      rw [e2] at q2
      exact RdK.mono b2 q2
    | ok e' j2 =>
      have q2 : RdK T.C_Cursor T.C_BadText H1 c (match readM c k j1 with
        | .bad j' => .bad j'
        | .ok b j' => .ok (f e b) j') Q E := q1
      rw [e2] at q2
      refine fun w H3 b3 ew C3 => ?_
      have ev3 := ev.keep (C2.keepT b3)
      rcases hf with ⟨rfl, rfl⟩ | ⟨o, rfl, rfl, rfl⟩
      · refine ⟨_, rfl, rfl, _, rfl, iteT ⟨_, rfl, _, rfl, _, rfl, by show 3 ≤ sizeLine; decide, fun U fU => ?_⟩⟩
        have sU := same_upd (o := .tup [V.str x, v, w]) fU
        exact q2 _ _ ((b2.trans b3).trans (but_of sU)) (.op upd_same (ev3.keep (keepT_of sU)) (ew.keep (keepT_of sU))) (C3.same sU)
      · refine ⟨_, rfl, rfl, _, rfl, iteF ⟨_, rfl, _, rfl, _, rfl, _, rfl, by show 4 ≤ sizeLine; decide, fun U fU => ?_⟩⟩
        have sU := same_upd (o := .tup [V.str "pick", .str o, v, w]) fU
        exact q2 _ _ ((b2.trans b3).trans (but_of sU)) (.pick upd_same (ev3.keep (keepT_of sU)) (ew.keep (keepT_of sU))) (C3.same sU)
/-! ### read_expression@x -/
theorem step_read_expression_x (T : Txt K mg) {n : Nat} (G : FnOk P w K mg base (L2.CX P w) (5 + 2 * n) T.a_read_expression T.d_read_expression ["cursor", "room"] (sp_read_expression_x T n)) : FnOk P w K mg base (L2.CX P w) (5 + 2 * n + 2) T.a_read_expression T.d_read_expression ["cursor", "room"] (sp_read_expression_x T (n + 1)) := by
  refine T.F_read_expression.ok (CX := L2.CX P w) sc_read_expression (fun vs H Q E h => ?_) (fun cdv A outer s H vs Q E hr h => ?_)
  · obtain ⟨c, i, k, rfl, _⟩ := h
    rfl
  obtain ⟨c, i, k0, rfl, k1, kn, hC, hW, hl, q⟩ := h
  refine ⟨_, (pss_cons (ps_set (i := 2) sc_read_expression.nd rfl (by first | exact Or.inl rfl | exact Or.inr rfl) (pe_prop (pv 0) T.cl_Cursor T.pr_Cursor_word (ok_Cursor_word T) (hr.mono (by omega)) T.b_Cursor_word .nil pass0 rfl))
      (pss_cons (ps_if (pt_cmpR op_in_seq (pv 2) (pe_fld (pv 0) rfl) (by with_unfolding_all rfl)) (pss_one (ps_ret (pe_tup (pa_cons pe_str (pa_cons (pe_methT (pv 0) T.cl_Cursor T.me_Cursor_take_name (ok_Cursor_take_name_x T) (hr.mono (by omega)) T.b_Cursor_take_name .nil (fun σ => passAt (takes_of rfl rfl rfl rfl) σ) (pa_cons (pe_fld (pv 0) rfl) pa_nil)) pa_nil))))) pss_nil)
      (pss_cons (ps_if (pt_cmpR op_in_seq (pv 2) (pe_call (ok_openings T) (hr.mono (by omega)) (by rfl) T.m_openings T.F_openings.kp T.b_openings .nil pass0 (pa_cons (pv 0) (pa_cons (pv 1) pa_nil))) (by with_unfolding_all rfl)) (pss_cons (ps_expr (pe_methT (pv 0) T.cl_Cursor T.me_Cursor_take_word (ok_Cursor_take_word_x T) (hr.mono (by omega)) T.b_Cursor_take_word .nil (fun σ => passAt (takes_of rfl rfl rfl rfl) σ) (pa_cons (pv 2) pa_nil)))
      (pss_one (ps_ret (pe_callSD (ok_read_parts_x T G) (hr.mono (by omega)) (by rfl) T.m_read_parts T.F_read_parts.kp T.b_read_parts .nil (fun σ => passAt (takes_of rfl rfl rfl rfl) σ) (pa_cons (pv 0) (pa_cons (pv 2) (pa_cons (pe_op op_sub (pv 1) pe_int) pa_nil))))))) pss_nil)
      (pss_one (ps_ret (pe_tup (pa_cons pe_str (pa_cons (pe_methT (pv 0) T.cl_Cursor T.me_Cursor_take_number (ok_Cursor_take_number_x T) (hr.mono (by omega)) T.b_Cursor_take_number .nil (fun σ => passAt (takes_of rfl rfl rfl rfl) σ) (pa_cons pe_int (pa_cons (pe_glob (by rfl) T.g_GREATEST_NUMBER T.r_GREATEST_NUMBER) pa_nil))) pa_nil)))))))), ?_⟩
  obtain ⟨k, rfl⟩ : ∃ k, k0 = k + 1 := ⟨k0 - 1, by omega⟩
  obtain ⟨hle, ⟨dx, ha⟩, hw, hz1, hz2⟩ := id hC
  refine ⟨_, rfl, c.a, dx, _, rfl, ha, c, i, rfl, hC, ?_⟩
  refine ⟨_, rfl, _, rfl, c.a, T.C_Cursor, dx, _, _, rfl, ha, T.cl_Cursor, T.n_Cursor_variables, lk_ix cgNd 2 rfl, c.z2, _, rfl, .inr (SqT.of hz2), here_flat, strs_flat _, _, rfl, ?_⟩
  cases e : c.ws[i]? with
  | none =>
    have eh : hereV c.ws i = .non := by unfold hereV; rw [e]
    have q' : RdK T.C_Cursor T.C_BadText H c (.bad i) Q E := by
      unfold readM at q
      rw [e] at q
      exact q
    rw [eh, inV_non]
    refine iteF ?_
    refine ⟨_, rfl, _, rfl, _, rfl, c, i, k + 1, rfl, hC, fun p H1 s1 np e1 => ?_⟩
    refine ⟨p, _, rfl, .inl (SqL.of e1), rfl, strs_flat _, _, rfl, ?_⟩
    rw [inV_non]
    refine iteF ?_
    obtain ⟨hle1, ⟨dx1, ha1⟩, _⟩ := hC.same s1
    refine ⟨_, rfl, c.a, dx1, _, rfl, ha1, cg_no cu_meths.2.2.1, c, i, 0, 65535, rfl, hC.same s1, by omega, hW, fun x v e2 => (by rw [e] at e2; cases e2), fun no d H2 s2 nd hd => ?_⟩
    exact q' d H2 (but_of (s1.trans s2)) hd
  | some x =>
    have eh : hereV c.ws i = .str x := by unfold hereV; rw [e]
    have q0 : RdK T.C_Cursor T.C_BadText H c (if x ∈ c.vars then .ok (.var x) (i + 1) else if x ∈ opens c.se (!c.ops.isEmpty) (k + 1) then partsR c (readM c k) x (i + 1)
      else match numOf x with
        | some n => .ok (.num n) (i + 1)
        | none => .bad i) Q E := by
      unfold readM at q
      rw [e] at q
      exact q
    rw [eh]
    clear q
    refine ite2 (fun y => ?_) (fun y => ?_)
    · have mx := inv_t y
      rw [if_pos mx] at q0
      refine ⟨_, rfl, c.a, dx, _, rfl, ha, cg_no cu_meths.2.2.2.1, _, rfl, c.a, T.C_Cursor, dx, _, _, rfl, ha, T.cl_Cursor, T.n_Cursor_variables, lk_ix cgNd 2 rfl, c, c.z2, c.vars, i, rfl, hC, .inr (SqT.of hz2), by omega, fun o v eo f H1 b1 C1 => ⟨by show 2 ≤ sizeLine; decide, fun U fU => ?_⟩, fun no => absurd ⟨mx, rfl⟩ (no x (.str x) e)⟩
      rw [e] at eo
      cases eo
      obtain ⟨_, rfl⟩ := f
      exact q0 _ _ (b1.trans (but_of (same_upd fU))) (.var upd_same) (C1.same (same_upd fU))
    · have nx := inv_f y
      rw [if_neg nx] at q0
      refine ⟨_, rfl, _, rfl, _, rfl, c, i, k + 1, rfl, hC, fun p H1 s1 np e1 => ?_⟩
      refine ⟨p, _, rfl, .inl (SqL.of e1), rfl, strs_flat _, _, rfl, ite2 (fun y2 => ?_) (fun y2 => ?_)⟩
      · have mo := inv_t y2
        rw [if_pos mo] at q0
        obtain ⟨hle1, ⟨dx1, ha1⟩, _⟩ := hC.same s1
        refine ⟨_, rfl, c.a, dx1, _, rfl, ha1, cg_no cu_meths.2.1, _, rfl, c, i, x, rfl, hC.same s1, by omega, fun x' v e' f H2 b2 C2 => ?_, fun no => absurd ⟨rfl, rfl⟩ (no x .non e)⟩
        refine ⟨_, rfl, _, rfl, _, rfl, _, _, rfl, rfl, c, i + 1, k, x, ?_, by omega, fun xl => ?_, C2, hW, hl, RdK.mono ((but_of s1).trans b2) q0⟩
        · show [V.ref c.a, V.str x, V.int (((k + 1 : Nat) : Int) - 1)] = [V.ref c.a, V.str x, V.int ((k : Nat) : Int)]
          rw [show ((k + 1 : Nat) : Int) - 1 = ((k : Nat) : Int) by omega]
        · cases k with
          | zero => exact absurd mo (opens_one xl)
          | succ k => omega
      · have no := inv_f y2
        rw [if_neg no] at q0
        obtain ⟨hle1, ⟨dx1, ha1⟩, _⟩ := hC.same s1
        refine ⟨_, rfl, c.a, dx1, _, rfl, ha1, cg_no cu_meths.2.2.1, c, i, 0, 65535, rfl, hC.same s1, by omega, hW, fun x' v e' f H2 b2 C2 => ⟨by show 2 ≤ sizeLine; decide, fun U fU => ?_⟩, fun nf d H2 s2 nd hd => ?_⟩
        · rw [e] at e'
          cases e'
          obtain ⟨n, n1, n2, _, _, rfl⟩ := f
          rw [numOf_some n1 n2] at q0
          exact q0 _ _ ((but_of s1).trans (b2.trans (but_of (same_upd fU)))) (.num upd_same) (C2.same (same_upd fU))
        · have nn : numOf x = none := numOf_none fun n hn en => nf x (.int n) e ⟨n, hn, en, by omega, by omega, rfl⟩
          rw [nn] at q0
          exact q0 d H2 (but_of (s1.trans s2)) hd
theorem ok_read_expression_x (T : Txt K mg) : ∀ n, FnOk P w K mg base (L2.CX P w) (5 + 2 * n) T.a_read_expression T.d_read_expression ["cursor", "room"] (sp_read_expression_x T n)
  | 0 => ⟨fun vs H Q E h => absurd h (no_read_expression_x T vs H Q E), fun A outer s H args us vs Q E _ _ _ _ h => absurd h (no_read_expression_x T vs H Q E)⟩
  | n + 1 => step_read_expression_x T (ok_read_expression_x T n)
/-! ### expression_words -/
def sp_expression_words (T : Txt K mg) (n : Nat) : Sp := fun vs H Q _ => ∃ (v : V) (e : Ex) (ns ps : List Str), vs = [v] ∧ e.deep ≤ n ∧ n ≤ 13 ∧ Ev H v e ∧ e.Wf ns ps ∧ ∀ (p : Addr) (H' : Hp), Same H H' → H p = none → H' p = some (.lst (e.words.map V.str)) → Q (.ref p) H'
theorem no_expression_words (T : Txt K mg) : ∀ vs H Q E, ¬ sp_expression_words T 0 vs H Q E := fun vs H Q E ⟨_, e, _, _, _, h, _⟩ => absurd (deep_pos e) (by omega)

theorem step_expression_words (T : Txt K mg) {n : Nat} (G : FnOk P w K mg base CX0 (0 + n) T.a_expression_words T.d_expression_words ["expression"] (sp_expression_words T n)) : FnOk P w K mg base CX0 (0 + n + 1) T.a_expression_words T.d_expression_words ["expression"] (sp_expression_words T (n + 1)) := by
  refine T.F_expression_words.ok sc_expression_words (fun vs H Q E h => ?_) (fun cdv A outer s H vs Q E hr h => ?_)
  · obtain ⟨v, e, ns, ps, rfl, _⟩ := h
    rfl
  obtain ⟨v, e, ns, ps, rfl, hd, hn, hv, hw, q⟩ := h
  refine ⟨_, (pss_cons (ps_set (i := 1) sc_expression_words.nd rfl (by first | exact Or.inl rfl | exact Or.inr rfl) (pe_ix ix_tup (pv 0) pe_int (fun _ _ => rfl)))
      (pss_cons (ps_if (pt_cmpR op_eq (pv 1) pe_str (nomark _)) (pss_one (ps_ret (pe_lst (pa_cons (pe_callTy call_str_int (by rfl) T.z_str (by first | exact PySem.boot_str | decide +kernel) (pa_cons (pe_ix ix_tup (pv 0) pe_int (fun _ _ => rfl)) pa_nil)) pa_nil)))) pss_nil)
      (pss_cons (ps_if (pt_cmpR op_eq (pv 1) pe_str (nomark _)) (pss_one (ps_ret (pe_lst (pa_cons (pe_ix ix_tup (pv 0) pe_int (fun _ _ => rfl)) pa_nil)))) pss_nil)
      (pss_cons (ps_set (i := 2) sc_expression_words.nd rfl (by first | exact Or.inl rfl | exact Or.inr rfl) (pe_lst (pa_cons (pv 1) pa_nil)))
      (pss_cons (ps_set (i := 3) sc_expression_words.nd rfl (by first | exact Or.inl rfl | exact Or.inr rfl) (pe_slice sl_tup (pv 0) (po_some pe_int) po_none))
      (C8.pss_cut (ps_if (pt_cmpR op_eq (pv 1) pe_str (nomark _)) (pss_cons (ps_expr (pe_bm PySem.F.plainAttrs_list PySem.F.slot_list_append PySem.F.type_list_append mt_append (pv 2) (pa_cons (pe_ix ix_tup (pv 0) pe_int (fun _ _ => rfl)) pa_nil)))
      (pss_one (ps_set (i := 3) sc_expression_words.nd rfl (by first | exact Or.inl rfl | exact Or.inr rfl) (pe_slice sl_tup (pv 0) (po_some pe_int) po_none)))) pss_nil)
      (pss_cons (ps_for PassesOwn.never rfl (pi_tup (pv 3)) (pg_name (i := 4) sc_expression_words.nd rfl (by first | exact Or.inl rfl | exact Or.inr rfl)) (pss_one (ps_expr (pe_bm PySem.F.plainAttrs_list PySem.F.slot_list_extend PySem.F.type_list_extend mt_extend (pv 2) (pa_cons (pe_call G hr (by rfl) T.m_expression_words T.F_expression_words.kp T.b_expression_words .nil pass0 (pa_cons (pv 4) pa_nil)) pa_nil)))))
      (pss_one (ps_ret (pv 2)))))))))), ?_⟩
  obtain ⟨n1, n2, n3, n4, n5, n6, n7, n8, n9, n10⟩ := num_ne
  have way : (∃ a m, v = .ref a ∧ e = .num m ∧ H a = some (.tup [.str "number", .int m])) ∨ (∃ a x, v = .ref a ∧ e = .var x ∧ H a = some (.tup [.str "variable", .str x])) ∨
      ∃ (a : Addr) (kd : Str) (rest : List V) (w0 : List Str) (es : List Ex), v = .ref a ∧ H a = some (.tup (.str kd :: rest)) ∧ kd ≠ "number" ∧ kd ≠ "variable" ∧ e.words = w0 ++ (es.map Ex.words).flatten ∧ (∀ f ∈ es, f.deep ≤ n ∧ f.Wf ns ps) ∧
      ((kd ≠ "pick" ∧ w0 = [kd] ∧ Paired (Ev H) rest es) ∨ ∃ x r, kd = "pick" ∧ rest = .str x :: r ∧ w0 = [kd, x] ∧ Paired (Ev H) r es) := by
    cases hv with
    | @num a m ha => exact .inl ⟨a, m, rfl, rfl, ha⟩
    | @var a x ha => exact .inr (.inl ⟨a, x, rfl, rfl, ha⟩)
    | @long a ha => exact .inr (.inr ⟨a, "long", [], ["long"], [], rfl, ha, n2, n5, rfl, (fun f m => by cases m), .inl ⟨n9.symm, rfl, .nil⟩⟩)
    | @view a v e ha hv =>
      have hd' : e.deep + 1 ≤ n + 1 := hd
      exact .inr (.inr ⟨a, "view", [v], ["view"], [e], rfl, ha, n3, n6, by simp [Ex.words], (fun f m => by rw [List.mem_singleton.mp m]; exact ⟨by omega, hw⟩), .inl ⟨n10.symm, rfl, .cons hv .nil⟩⟩)
    | @pick a x v w e f ha hv hv2 =>
      have hd' : max e.deep f.deep + 1 ≤ n + 1 := hd
      refine .inr (.inr ⟨a, "pick", [.str x, v, w], ["pick", x], [e, f], rfl, ha, n4, n7, by simp [Ex.words], fun g m => ?_, .inr ⟨x, [v, w], rfl, rfl, rfl, .cons hv (.cons hv2 .nil)⟩⟩)
      rcases List.mem_cons.mp m with rfl | m
      · exact ⟨by omega, hw.2.1⟩
      · rw [List.mem_singleton.mp m]
        exact ⟨by omega, hw.2.2⟩
    | @op a z v w e f ha hv hv2 =>
      have hd' : max e.deep f.deep + 1 ≤ n + 1 := hd
      obtain ⟨m1, m2, m3, m4, m5⟩ := opL_ne hw.1
      refine .inr (.inr ⟨a, z, [v, w], [z], [e, f], rfl, ha, m1, m2, by simp [Ex.words], fun g m => ?_, .inl ⟨m5, rfl, .cons hv (.cons hv2 .nil)⟩⟩)
      rcases List.mem_cons.mp m with rfl | m
      · exact ⟨by omega, hw.2.1⟩
      · rw [List.mem_singleton.mp m]
        exact ⟨by omega, hw.2.2⟩
  have wl := words_le (Nat.le_trans hd hn)
  rcases way with ⟨a, m, rfl, rfl, ha⟩ | ⟨a, x, rfl, rfl, ha⟩ | ⟨a, kd, rest, w0, es, rfl, ha, k1, k2, ew, hes, way⟩
  · refine ⟨_, rfl, a, _, 0, .str "number", rfl, rfl, SqT.of ha, atI_nat (j := 0) rfl, ?_⟩
    refine ⟨_, rfl, rfl, _, rfl, iteS ?_⟩
    refine ⟨_, rfl, a, _, 1, .int m, rfl, rfl, SqT.of ha, atI_nat (j := 1) rfl, m, rfl, ?_, by show 1 ≤ sizeLine; decide, fun p fp => q p _ (same_upd fp) fp upd_same⟩
    obtain ⟨j, rfl⟩ : ∃ j : Nat, m = (j : Int) := ⟨m.toNat, by have := hw.1; omega⟩
    exact log_small (Nat.lt_of_lt_of_le (show j < 65536 by have := hw.2; omega) (by decide +kernel))
  · refine ⟨_, rfl, a, _, 0, .str "variable", rfl, rfl, SqT.of ha, atI_nat (j := 0) rfl, ?_⟩
    refine ⟨_, rfl, rfl, _, rfl, iteN n1 ?_⟩
    refine ⟨_, rfl, rfl, _, rfl, iteS ?_⟩
    exact ⟨_, rfl, a, _, 1, .str x, rfl, rfl, SqT.of ha, atI_nat (j := 1) rfl, by show 1 ≤ sizeLine; decide, fun p fp => q p _ (same_upd fp) fp upd_same⟩
  refine ⟨_, rfl, a, _, 0, .str kd, rfl, rfl, SqT.of ha, atI_nat (j := 0) rfl, ?_⟩
  refine ⟨_, rfl, rfl, _, rfl, iteN k1 ?_⟩
  refine ⟨_, rfl, rfl, _, rfl, iteN k2 ?_⟩
  refine ⟨_, rfl, by show 1 ≤ sizeLine; decide, fun W fW => ?_⟩
  have sW := same_upd (o := .lst [V.str kd]) fW
  have hcut : ¬ (HT.sIx (V.str kd :: rest).length 0 (some 1) = 0 ∧ HT.sIx (V.str kd :: rest).length (V.str kd :: rest).length none = (V.str kd :: rest).length) := fun z => by
    have z1 := z.1
    unfold HT.sIx at z1
    simp at z1
  have ecut : cutV (V.str kd :: rest) (some 1) none = rest := by
    unfold cutV HT.sIx
    simp
  refine ⟨_, rfl, _, rfl, a, _, rfl, SqT.of (sW _ _ ha), hcut, fun t ft => ?_⟩
  rw [ecut]
  have st := same_upd (o := .tup rest) ft
  refine ⟨fun σ' H' => ∃ (t' : Addr) (xs : List V), σ' = [some (.ref a), some (.str kd), some (.ref W), some (.ref t'), none] ∧ Same H H' ∧ H' W = some (.lst (w0.map V.str)) ∧ H' t' = some (.tup xs) ∧ Paired (Ev H') xs es, ?_, ?_⟩
  · rcases way with ⟨k3, rfl, hp⟩ | ⟨x, r, rfl, rfl, rfl, hp⟩
    · refine ⟨_, rfl, rfl, _, rfl, iteN k3 ⟨t, rest, rfl, sW.trans st, st _ _ upd_same, upd_same, ?_⟩⟩
      exact L2.Paired.mapP hp fun _ _ y => y.keep (keepT_of (sW.trans st))
    · have sH := sW.trans st
      refine ⟨_, rfl, rfl, _, rfl, iteS ?_⟩
      refine ⟨_, rfl, .inl ⟨rfl, _, SqL.of (st _ _ upd_same)⟩, _, rfl, a, _, 1, .str x, rfl, rfl, SqT.of (sH _ _ ha), atI_nat (j := 1) rfl, W, _, _, rfl, rfl, st _ _ upd_same, small1000 (by show 1 ≤ 1000; decide), ?_⟩
      have s2 : Same H (upd (upd (upd H W (.lst [V.str "pick"])) t (.tup (V.str x :: r))) W (.lst ([V.str "pick"] ++ [V.str x]))) := same_at sH fW
      have e2 : upd (upd (upd H W (.lst [V.str "pick"])) t (.tup (V.str x :: r))) W (.lst ([V.str "pick"] ++ [V.str x])) W = some (.lst (([("pick" : Str), x] : List Str).map V.str)) := upd_same
      show tSeq _ _ _ _ (upd (upd (upd H W (.lst [V.str "pick"])) t (.tup (V.str x :: r))) W (.lst ([V.str "pick"] ++ [V.str x])))
      revert s2 e2
      generalize upd (upd (upd H W (.lst [V.str "pick"])) t (.tup (V.str x :: r))) W (.lst ([V.str "pick"] ++ [V.str x])) = H2
      intro s2 e2
      have hcut2 : ¬ (HT.sIx (V.str "pick" :: V.str x :: r).length 0 (some 2) = 0 ∧ HT.sIx (V.str "pick" :: V.str x :: r).length (V.str "pick" :: V.str x :: r).length none = (V.str "pick" :: V.str x :: r).length) := fun z => by
        have z1 := z.1
        unfold HT.sIx at z1
        simp at z1
      have ecut2 : cutV (V.str "pick" :: V.str x :: r) (some 2) none = r := by
        unfold cutV HT.sIx
        simp
      refine ⟨_, rfl, _, rfl, a, _, rfl, SqT.of (s2 _ _ ha), hcut2, fun u fu => ?_⟩
      rw [ecut2]
      have su := same_upd (o := .tup r) fu
      refine ⟨u, r, rfl, s2.trans su, su _ _ e2, upd_same, ?_⟩
      exact L2.Paired.mapP hp fun _ _ y => y.keep (keepT_of (s2.trans su))
  clear way hcut ecut sW ft st
  rintro σ1 H1 ⟨t', xs, rfl, s1, e1, et, hp⟩
  refine ⟨_, rfl, t', rfl, ⟨_, SqT.of et⟩, for_tup (K := K) (a := t') (xs := xs) (fun i σ' H' => ∃ (y : Option V), σ' = [some (.ref a), some (.str kd), some (.ref W), some (.ref t'), y] ∧ Same H H' ∧ H' t' = some (.tup xs) ∧ Paired (Ev H') xs es ∧ H' W = some (.lst ((w0 ++ ((es.take i).map Ex.words).flatten).map V.str))) ⟨_, rfl, s1, et, hp, by rw [List.take_zero]; simpa using e1⟩ ?_ ?_ ?_⟩
  · rintro i σ2 H2 _ ⟨y, rfl, s2, et2, hp2, e2⟩
    exact SqT.of et2
  · rintro i z σ2 H2 hi ⟨y, rfl, s2, et2, hp2, e2⟩
    obtain ⟨f, hf, hz⟩ := pgetC hp2 hi
    have tk : es.take (i + 1) = es.take i ++ [f] := by rw [List.take_add_one, hf]; rfl
    have fl : ((es.take (i + 1)).map Ex.words).flatten = ((es.take i).map Ex.words).flatten ++ f.words := by rw [tk, List.map_append, List.flatten_append]; simp
    have tot : (w0 ++ ((es.take (i + 1)).map Ex.words).flatten).length ≤ 16384 := by
      have h1 : ((es.take (i + 1)).map Ex.words).flatten.length + ((es.drop (i + 1)).map Ex.words).flatten.length = (es.map Ex.words).flatten.length := by
        rw [← List.length_append, ← List.flatten_append, ← List.map_append, List.take_append_drop]
      have h2 : e.words.length = w0.length + (es.map Ex.words).flatten.length := by rw [ew, List.length_append]
      rw [List.length_append]
      omega
    rw [fl, ← List.append_assoc, List.length_append] at tot
    refine ⟨_, rfl, .inl ⟨rfl, _, SqL.of e2⟩, _, rfl, z, f, ns, ps, rfl, (hes f (List.mem_of_getElem? hf)).1, by omega, hz, (hes f (List.mem_of_getElem? hf)).2, fun p H3 s3 np e3 => ?_⟩
    have e23 := s3 _ _ e2
    have nWp : p ≠ W := fun h => by rw [h, e2] at np; cases np
    refine ⟨W, p, _, _, rfl, rfl, e23, e3, ?_, ?_⟩
    · rw [List.length_map, List.length_map, sizeLine_eq]
      omega
    have s4 : Same H (upd H3 W (.lst ((w0 ++ ((es.take i).map Ex.words).flatten).map V.str ++ f.words.map V.str))) := same_at (s2.trans s3) fW
    have kT : KeepT H2 (upd H3 W (.lst ((w0 ++ ((es.take i).map Ex.words).flatten).map V.str ++ f.words.map V.str))) := (keepT_of s3).trans (keepT_lst e23)
    refine ⟨_, rfl, s4, kT _ _ et2, L2.Paired.mapP hp2 fun _ _ y => y.keep kT, ?_⟩
    rw [upd_same, fl, ← List.append_assoc, ← List.map_append]
  · rintro σ2 H2 ⟨y, rfl, s2, et2, hp2, e2⟩
    refine ⟨_, rfl, q W H2 s2 fW ?_⟩
    rw [e2, ew]
    have hl2 : xs.length = es.length := paired_len hp2
    rw [hl2, List.take_length]
theorem ok_expression_words (T : Txt K mg) : ∀ n, FnOk P w K mg base CX0 (0 + n) T.a_expression_words T.d_expression_words ["expression"] (sp_expression_words T n)
  | 0 => ⟨fun vs H Q E h => absurd h (no_expression_words T vs H Q E), fun A outer s H args us vs Q E _ _ _ _ h => absurd h (no_expression_words T vs H Q E)⟩
  | n + 1 => step_expression_words T (ok_expression_words T n)
/-! ### _law_pool -/
def sp_law_pool (T : Txt K mg) : Sp := fun vs H Q _ => ∃ (a : Addr) (ns : List Int) (b : Int), vs = [.ref a, .int b] ∧ SqL K H a (ns.map V.int) ∧ ∀ (p c : Addr) (H' : Hp), Same H H' → H p = none → H c = none → Pool H' p c b → Q (.ref p) H'

theorem ok_law_pool (T : Txt K mg) : FnOk P w K mg base CX0 1 T.a_law_pool T.d_law_pool ["script", "budget"] (sp_law_pool T) := by
  refine T.F_law_pool.ok sc_law_pool (fun vs H Q E h => ?_) (fun cdv A outer s H vs Q E hr h => ?_)
  · obtain ⟨a, ns, b, rfl, _⟩ := h
    rfl
  obtain ⟨a, ns, b, rfl, hS, q⟩ := h
  refine ⟨_, (pss_one (ps_ret (pe_lst (pa_cons (pe_callTy call_list_of (by rfl) T.z_list (by first | exact PySem.boot_list | decide +kernel) (pa_cons (pv 0) pa_nil)) (pa_cons pe_int (pa_cons pe_int (pa_cons pe_int (pa_cons pe_int (pa_cons (pv 1) pa_nil))))))))), ?_⟩
  refine ⟨_, rfl, a, _, rfl, .inl hS, fun c hc => ⟨_, rfl, by show 6 ≤ sizeLine; decide, fun p hp => ?_⟩⟩
  refine q p c _ (upd2_same hc hp) ((same_upd hc).free hp) hc ⟨ns, 0, 0, 1, 0, upd_same, same_upd hp _ _ upd_same, Int.le_refl 0, fun z => ?_⟩
  rw [z] at hp
  rw [upd_same] at hp
  cases hp
/-! ### _law_draw -/
def sp_law_draw (T : Txt K mg) : Sp := fun vs H Q _ => ∃ (p c : Addr) (n b : Int), vs = [.ref p, .int n] ∧ 0 < n ∧ n < 1073741824 ∧ Pool H p c b ∧ ∀ (k : Int) (H' : Hp), 0 ≤ k → k < n → But p H H' → Pool H' p c b → Q (.int k) H'

theorem ok_law_draw (T : Txt K mg) : FnOk P w K mg base CX0 1 T.a_law_draw T.d_law_draw ["pool", "size"] (sp_law_draw T) := by
  refine T.F_law_draw.ok sc_law_draw (fun vs H Q E h => ?_) (fun cdv A outer s H vs Q E hr h => ?_)
  · obtain ⟨p, c, n, b, rfl, _⟩ := h
    rfl
  obtain ⟨p, c, n, b, rfl, hn, hn2, hP, q⟩ := h
  have hP0 := hP
  obtain ⟨ns, i, r, u, t, hp, hc, hi, hcp⟩ := hP
  refine ⟨_, (C8.pss_cut (ps_if (PW.pt (pw_and (pt_cmpR op_le (pe_ix ix_list (pv 0) pe_int (fun _ _ => rfl)) pe_int (nomark _)) (pw_and (pt_cmpR op_le (pe_ix ix_list (pv 0) pe_int (fun _ _ => rfl)) pe_int (nomark _)) (pw_and1 (pt_cmpR op_lt (pe_ix ix_list (pv 0) pe_int (fun _ _ => rfl)) (pe_callB call_len_seq (by rfl) T.z_len (by first | exact PySem.boot_len | decide +kernel) (pa_cons (pe_ix ix_list (pv 0) pe_int (fun _ _ => rfl)) pa_nil)) (nomark _)))))) (pss_cons (ps_set (i := 2) sc_law_draw.nd rfl (by first | exact Or.inl rfl | exact Or.inr rfl) (pe_ix ix_list (pe_ix ix_list (pv 0) pe_int (fun _ _ => rfl)) (pe_ix ix_list (pv 0) pe_int (fun _ _ => rfl)) (fun _ _ => rfl)))
      (pss_cons (ps_asg (pe_op op_add (pe_ix ix_list (pv 0) pe_int (fun _ _ => rfl)) pe_int) (pg_sub (pv 0) pe_int set_list))
      (pss_cons (ps_asg (pe_op op_mod (pe_callTy call_int1 (by rfl) T.z_int (by first | exact PySem.boot_int | decide +kernel) (pa_cons (pe_op op_add (pe_op op_mul (pe_ix ix_list (pv 0) pe_int (fun _ _ => rfl)) pe_int) (pv 2)) pa_nil)) pe_int) (pg_sub (pv 0) pe_int set_list))
      (pss_cons (ps_asg pe_int (pg_sub (pv 0) pe_int set_list))
      (pss_one (ps_if (pt_cmpR op_ge (pv 2) (pe_op op_pow pe_int pe_int) (nomark _)) (pss_one (ps_asg (pv 2) (pg_sub (pv 0) pe_int set_list))) pss_nil)))))) pss_nil)
      (pss_cons (ps_if (pt_cmpR op_gt (pe_ix ix_list (pv 0) pe_int (fun _ _ => rfl)) pe_int (nomark _)) (pss_cons (ps_set (i := 3) sc_law_draw.nd rfl (by first | exact Or.inl rfl | exact Or.inr rfl) (pe_op op_mod (pe_callTy call_int1 (by rfl) T.z_int (by first | exact PySem.boot_int | decide +kernel) (pa_cons (pe_ix ix_list (pv 0) pe_int (fun _ _ => rfl)) pa_nil)) (pv 1)))
      (pss_cons (ps_asg (pe_op op_fdiv (pe_ix ix_list (pv 0) pe_int (fun _ _ => rfl)) (pv 1)) (pg_sub (pv 0) pe_int set_list))
      (pss_cons (ps_asg pe_int (pg_sub (pv 0) pe_int set_list))
      (pss_one (ps_ret (pv 3)))))) pss_nil)
      (pss_cons (ps_asg (pe_op op_sub (pe_ix ix_list (pv 0) pe_int (fun _ _ => rfl)) pe_int) (pg_sub (pv 0) pe_int set_list))
      (pss_cons (ps_asg (pe_op op_mod (pe_callTy call_int1 (by rfl) T.z_int (by first | exact PySem.boot_int | decide +kernel) (pa_cons (pe_op op_add (pe_op op_mul (pe_ix ix_list (pv 0) pe_int (fun _ _ => rfl)) pe_int) pe_int) pa_nil)) pe_int) (pg_sub (pv 0) pe_int set_list))
      (pss_one (ps_ret (pe_op op_mod (pe_op op_mod (pe_callTy call_int1 (by rfl) T.z_int (by first | exact PySem.boot_int | decide +kernel) (pa_cons (pe_op op_add (pe_op op_mul (pe_ix ix_list (pv 0) pe_int (fun _ _ => rfl)) pe_int) pe_int) pa_nil)) pe_int) (pv 1)))))))), ?_⟩
  let ps : Int → Int → Int → Int → List V := fun i r u t => [.ref c, .int i, .int r, .int u, .int t, .int b]
  have at0 : ∀ i r u t, atI (ps i r u t) 0 = some (.ref c) := fun _ _ _ _ => atI_nat (j := 0) rfl
  have at1 : ∀ i r u t, atI (ps i r u t) 1 = some (.int i) := fun _ _ _ _ => atI_nat (j := 1) rfl
  have at2 : ∀ i r u t, atI (ps i r u t) 2 = some (.int r) := fun _ _ _ _ => atI_nat (j := 2) rfl
  have at3 : ∀ i r u t, atI (ps i r u t) 3 = some (.int u) := fun _ _ _ _ => atI_nat (j := 3) rfl
  have at4 : ∀ i r u t, atI (ps i r u t) 4 = some (.int t) := fun _ _ _ _ => atI_nat (j := 4) rfl
  refine ⟨fun σ' H' => ∃ y i r u t, σ' = [some (.ref p), some (.int n), y, none] ∧ But p H H' ∧ H' p = some (.lst (ps i r u t)) ∧ 0 ≤ i, ?_, ?_⟩
  · refine ⟨_, rfl, p, _, 2, .int r, rfl, rfl, SqL.of hp, at2 _ _ _ _, _, _, rfl, rfl, _, rfl, ite2 (fun _ => ?_) (fun _ => ⟨none, i, r, u, t, rfl, But.refl _ _, hp, hi⟩)⟩
    refine ⟨_, rfl, p, _, 4, .int t, rfl, rfl, SqL.of hp, at4 _ _ _ _, _, _, rfl, rfl, _, rfl, ite2 (fun _ => ?_) (fun _ => ⟨none, i, r, u, t, rfl, But.refl _ _, hp, hi⟩)⟩
    refine ⟨_, rfl, p, _, 1, .int i, rfl, rfl, SqL.of hp, at1 _ _ _ _, _, rfl, p, _, 0, .ref c, rfl, rfl, SqL.of hp, at0 _ _ _ _, c, _, rfl, .inl (SqL.of hc), _, _, rfl, rfl, _, rfl, ite2 (fun c3 => ?_) (fun _ => ⟨none, i, r, u, t, rfl, But.refl _ _, hp, hi⟩)⟩
    have c3' : i < (((ns.map V.int).length : Nat) : Int) := of_decide_eq_true c3
    rw [List.length_map] at c3'
    have hlt : i.toNat < ns.length := by omega
    have gi : (ns.map V.int)[i.toNat]? = some (.int ns[i.toNat]) := by rw [List.getElem?_map, List.getElem?_eq_getElem hlt]; rfl
    -- cell = pool[0][pool[1]]
    refine ⟨_, rfl, p, _, 0, .ref c, rfl, rfl, SqL.of hp, at0 _ _ _ _, _, rfl, p, _, 1, .int i, rfl, rfl, SqL.of hp, at1 _ _ _ _, c, _, i, _, rfl, rfl, SqL.of hc, at_of (j := i.toNat) (by omega) gi, ?_⟩
    generalize ns[i.toNat] = z
    -- pool[1] = pool[1] + 1; pool[3] = ..; pool[4] = 7
    refine ⟨_, rfl, p, _, 1, .int i, rfl, rfl, SqL.of hp, at1 _ _ _ _, _, _, rfl, rfl, _, rfl, p, _, 1, 1, rfl, rfl, hp, rfl, ?_⟩
    refine ⟨_, rfl, p, ps (i + 1) r u t, 3, .int u, rfl, rfl, SqL.of upd_same, at3 _ _ _ _, _, _, rfl, rfl, .inr ⟨by decide, by decide⟩, _, rfl, _, _, rfl, rfl, .inl ⟨_, rfl, _, _, rfl, rfl, by show (0 : Int) < 2147483647; decide, _, rfl, p, ps (i + 1) r u t, 3, 3, rfl, rfl, upd_same, rfl, ?_⟩⟩
    rw [upd_upd]
    refine ⟨_, rfl, p, ps (i + 1) r ((u * 31 + z) % 2147483647) t, 4, 4, rfl, rfl, upd_same, rfl, ?_⟩
    rw [upd_upd]
    -- if cell >= 10 ** 18: pool[2] = cell
    refine ⟨_, rfl, _, _, rfl, rfl, ⟨by decide, by decide, by decide⟩, _, _, rfl, rfl, _, rfl, ite2 (fun _ => ?_) (fun _ => ?_)⟩
    · refine ⟨_, rfl, _, rfl, p, ps (i + 1) r ((u * 31 + z) % 2147483647) 7, 2, 2, rfl, rfl, upd_same, rfl, ?_⟩
      rw [upd_upd]
      exact ⟨_, i + 1, z, _, 7, rfl, but_upd, upd_same, by omega⟩
    · exact ⟨_, i + 1, r, _, 7, rfl, but_upd, upd_same, by omega⟩
  clear hp hi at0
  rintro σ1 H1 ⟨y, i, r, u, t, rfl, b1, hp, hi⟩
  have hc1 : H1 c = some (.lst (ns.map V.int)) := b1 _ _ hcp hc
  refine ⟨_, rfl, p, _, 2, .int r, rfl, rfl, SqL.of hp, at2 _ _ _ _, _, _, rfl, rfl, _, rfl, ite2 (fun _ => ?_) (fun _ => ?_)⟩
  · -- a large cell is used up
    refine ⟨_, rfl, p, _, 2, .int r, rfl, rfl, SqL.of hp, at2 _ _ _ _, .inl ⟨_, rfl, _, rfl, _, _, rfl, rfl, hn, ?_⟩⟩
    refine ⟨_, rfl, p, _, 2, .int r, rfl, rfl, SqL.of hp, at2 _ _ _ _, _, rfl, _, _, rfl, rfl, ⟨hn, hn2⟩, _, rfl, p, _, 2, 2, rfl, rfl, hp, rfl, ?_⟩
    refine ⟨_, rfl, p, ps i (r / n) u t, 4, 4, rfl, rfl, upd_same, rfl, ?_⟩
    rw [upd_upd]
    refine ⟨_, rfl, q _ _ (Int.emod_nonneg _ (by omega)) (Int.emod_lt_of_pos _ hn) (b1.trans but_upd) ⟨ns, i, r / n, u, 0, upd_same, ?_, hi, hcp⟩⟩
    rw [upd_ne hcp]
    exact hc1
  · refine ⟨_, rfl, p, _, 4, .int t, rfl, rfl, SqL.of hp, at4 _ _ _ _, _, _, rfl, rfl, _, rfl, p, _, 4, 4, rfl, rfl, hp, rfl, ?_⟩
    refine ⟨_, rfl, p, ps i r u (t - 1), 3, .int u, rfl, rfl, SqL.of upd_same, at3 _ _ _ _, _, _, rfl, rfl, .inr ⟨by decide, by decide⟩, _, _, rfl, rfl, .inl ⟨_, rfl, _, _, rfl, rfl, by show (0 : Int) < 2147483647; decide, _, rfl, p, ps i r u (t - 1), 3, 3, rfl, rfl, upd_same, rfl, ?_⟩⟩
    rw [upd_upd]
    refine ⟨_, rfl, p, ps i r ((u * 48271 + 12345) % 2147483647) (t - 1), 3, _, rfl, rfl, SqL.of upd_same, at3 _ _ _ _, _, _, rfl, rfl, .inr ⟨by decide, by decide⟩, _, _, rfl, rfl, .inl ⟨_, rfl, _, _, rfl, rfl, by show (0 : Int) < 2147483647; decide, _, rfl, _, _, rfl, rfl, hn, ?_⟩⟩
    refine q _ _ (Int.emod_nonneg _ (by omega)) (Int.emod_lt_of_pos _ hn) (b1.trans but_upd) ⟨ns, i, r, _, t - 1, upd_same, ?_, hi, hcp⟩
    rw [upd_ne hcp]
    exact hc1
/-! ### _law_spend -/
def sp_law_spend (T : Txt K mg) : Sp := fun vs H Q _ => ∃ (p c : Addr) (b : Int), vs = [.ref p] ∧ Pool H p c b ∧ ∀ (k : Bool) (H' : Hp) (b' : Int), But p H H' → Pool H' p c b' → Q (.bl k) H'

theorem ok_law_spend (T : Txt K mg) : FnOk P w K mg base CX0 1 T.a_law_spend T.d_law_spend ["pool"] (sp_law_spend T) := by
  refine T.F_law_spend.ok sc_law_spend (fun vs H Q E h => ?_) (fun cdv A outer s H vs Q E hr h => ?_)
  · obtain ⟨p, c, b, rfl, _⟩ := h
    rfl
  obtain ⟨p, c, b, rfl, ⟨ns, i, r, u, t, hp, hc, hi, hcp⟩, q⟩ := h
  refine ⟨_, (pss_cons (ps_asg (pe_op op_sub (pe_ix ix_list (pv 0) pe_int (fun _ _ => rfl)) pe_int) (pg_sub (pv 0) pe_int set_list))
      (pss_one (ps_ret (pe_cmpR op_ge (pe_ix ix_list (pv 0) pe_int (fun _ _ => rfl)) pe_int (nomark _))))), ?_⟩
  refine ⟨_, rfl, p, _, 5, .int b, rfl, rfl, SqL.of hp, atI_nat (j := 5) rfl, _, _, rfl, rfl, _, rfl, p, _, 5, 5, rfl, rfl, hp, rfl, ?_⟩
  refine ⟨_, rfl, p, [.ref c, .int i, .int r, .int u, .int t, .int (b - 1)], 5, .int (b - 1), rfl, rfl, SqL.of upd_same, atI_nat (j := 5) rfl, _, _, rfl, rfl, q _ _ (b - 1) but_upd ⟨ns, i, r, u, t, upd_same, ?_, hi, hcp⟩⟩
  rw [upd_ne hcp]
  exact hc
/-! ### _law_few -/
def sp_law_few (T : Txt K mg) : Sp := fun vs H Q _ => ∃ (p c : Addr) (m b : Int), vs = [.ref p, .int m] ∧ 0 ≤ m ∧ m < 1000 ∧ Pool H p c b ∧ ∀ (k : Int) (H' : Hp), 0 ≤ k → k ≤ m → But p H H' → Pool H' p c b → Q (.int k) H'

theorem ok_law_few (T : Txt K mg) : FnOk P w K mg base CX0 2 T.a_law_few T.d_law_few ["pool", "most"] (sp_law_few T) := by
  refine T.F_law_few.ok sc_law_few (fun vs H Q E h => ?_) (fun cdv A outer s H vs Q E hr h => ?_)
  · obtain ⟨p, c, m, b, rfl, _⟩ := h
    rfl
  obtain ⟨p, c, m, b, rfl, m0, m1, hP, q⟩ := h
  refine ⟨_, (pss_cons (ps_set (i := 2) sc_law_few.nd rfl (by first | exact Or.inl rfl | exact Or.inr rfl) (pe_call (ok_law_draw T) (hr.mono (by decide)) (by rfl) T.m_law_draw T.F_law_draw.kp T.b_law_draw .nil pass0 (pa_cons (pv 0) (pa_cons pe_int pa_nil))))
      (pss_cons (ps_if (pt_cmpR op_eq (pv 2) pe_int (nomark _)) (pss_one (ps_ret (pe_call (ok_law_draw T) (hr.mono (by decide)) (by rfl) T.m_law_draw T.F_law_draw.kp T.b_law_draw .nil pass0 (pa_cons (pv 0) (pa_cons (pe_op op_add (pv 1) pe_int) pa_nil))))) pss_nil)
      (pss_one (ps_ret (pe_callB (call_min2 rfl) (by rfl) T.z_min (by first | exact PySem.boot_min | decide +kernel) (pa_cons (pv 2) (pa_cons (pv 1) pa_nil))))))), ?_⟩
  refine ⟨_, rfl, p, c, 4, b, rfl, by decide, by decide, hP, fun k H1 h0 h1 b1 P1 => ?_⟩
  refine ⟨_, rfl, rfl, _, rfl, ite2 (fun _ => ⟨_, rfl, _, rfl, _, _, rfl, rfl, p, c, m + 1, b, rfl, by omega, by omega, P1, fun k2 H2 g0 g1 b2 P2 => q _ _ g0 (by omega) (b1.trans b2) P2⟩) (fun _ => ⟨_, rfl, _, rfl, _, _, rfl, ?_⟩)⟩
  exact q _ _ (by split <;> omega) (by split <;> omega) b1 P1
/-! ### _law_number -/
def sp_law_number (T : Txt K mg) : Sp := fun vs H Q _ => ∃ (p c : Addr) (b : Int), vs = [.ref p] ∧ Pool H p c b ∧ ∀ (k : Int) (H' : Hp), Bd k → But p H H' → Pool H' p c b → Q (.int k) H'

theorem ok_law_number (T : Txt K mg) : FnOk P w K mg base CX0 2 T.a_law_number T.d_law_number ["pool"] (sp_law_number T) := by
  refine T.F_law_number.ok sc_law_number (fun vs H Q E h => ?_) (fun cdv A outer s H vs Q E hr h => ?_)
  · obtain ⟨p, c, b, rfl, _⟩ := h
    rfl
  obtain ⟨p, c, b, rfl, hP, q⟩ := h
  refine ⟨_, (pss_cons (ps_if (pt_cmpR op_eq (pe_call (ok_law_draw T) (hr.mono (by decide)) (by rfl) T.m_law_draw T.F_law_draw.kp T.b_law_draw .nil pass0 (pa_cons (pv 0) (pa_cons pe_int pa_nil))) pe_int (nomark _)) (pss_one (ps_ret (pe_call (ok_law_draw T) (hr.mono (by decide)) (by rfl) T.m_law_draw T.F_law_draw.kp T.b_law_draw .nil pass0 (pa_cons (pv 0) (pa_cons pe_int pa_nil))))) pss_nil)
      (pss_one (ps_ret (pe_call (ok_law_draw T) (hr.mono (by decide)) (by rfl) T.m_law_draw T.F_law_draw.kp T.b_law_draw .nil pass0 (pa_cons (pv 0) (pa_cons pe_int pa_nil)))))), ?_⟩
  refine ⟨_, rfl, p, c, 3, b, rfl, by decide, by decide, hP, fun k H1 h0 h1 b1 P1 => ?_⟩
  refine ⟨rfl, _, rfl, ite2 (fun _ => ?_) (fun _ => ?_)⟩
  · exact ⟨_, rfl, p, c, 65536, b, rfl, by decide, by decide, P1, fun k2 H2 g0 g1 b2 P2 => q _ _ ⟨g0, g1⟩ (b1.trans b2) P2⟩
  · exact ⟨_, rfl, p, c, 9, b, rfl, by decide, by decide, P1, fun k2 H2 g0 g1 b2 P2 => q _ _ ⟨g0, by omega⟩ (b1.trans b2) P2⟩
/-! ### _law_same -/
def sp_law_same (T : Txt K mg) (n : Nat) : Sp := fun vs H Q _ => ∃ (x y : V) (d : PyData), vs = [x, y] ∧ Da H x d ∧ Da H y d ∧ d.depth < n ∧ wide d = true ∧ Q (.bl true) H
theorem no_law_same (T : Txt K mg) : ∀ vs H Q E, ¬ sp_law_same T 0 vs H Q E := fun vs H Q E ⟨_, _, _, _, _, _, h, _⟩ => Nat.not_lt_zero _ h

theorem step_law_same (T : Txt K mg) {n : Nat} (G : FnOk P w K mg base CX0 (0 + n) T.a_law_same T.d_law_same ["actual", "due"] (sp_law_same T n)) : FnOk P w K mg base CX0 (0 + n + 1) T.a_law_same T.d_law_same ["actual", "due"] (sp_law_same T (n + 1)) := by
  refine T.F_law_same.ok sc_law_same (fun vs H Q E h => ?_) (fun cdv A outer s H vs Q E hr h => ?_)
  · obtain ⟨x, y, d, rfl, _⟩ := h
    rfl
  obtain ⟨x, y, d, rfl, hx, hy, hd, hw, q⟩ := h
  refine ⟨_, (pss_cons (ps_if (PW.pt (pw_or (pt_truth (pe_callB call_isi (by rfl) T.z_isinstance (by first | exact PySem.boot_isinstance | decide +kernel) (pa_cons (pv 1) (pa_cons (pe_bltn (v := .ty "tuple") (by rfl) T.z_tuple (by decide +kernel) rfl) pa_nil))) (fun _ => rfl)) (pw_or1 (pt_truth (pe_callB call_isi (by rfl) T.z_isinstance (by first | exact PySem.boot_isinstance | decide +kernel) (pa_cons (pv 1) (pa_cons (pe_bltn (v := .ty "list") (by rfl) T.z_list (by decide +kernel) rfl) pa_nil))) (fun _ => rfl))))) (pss_cons (ps_if (PW.pt (pw_or (pt_cmpR op_ne (pe_callB call_isi (by rfl) T.z_isinstance (by first | exact PySem.boot_isinstance | decide +kernel) (pa_cons (pv 1) (pa_cons (pe_bltn (v := .ty "tuple") (by rfl) T.z_tuple (by decide +kernel) rfl) pa_nil))) (pe_callB call_isi (by rfl) T.z_isinstance (by first | exact PySem.boot_isinstance | decide +kernel) (pa_cons (pv 0) (pa_cons (pe_bltn (v := .ty "tuple") (by rfl) T.z_tuple (by decide +kernel) rfl) pa_nil))) (nomark _)) (pw_or1 (pt_cmpR op_ne (pe_callB call_isi (by rfl) T.z_isinstance (by first | exact PySem.boot_isinstance | decide +kernel) (pa_cons (pv 1) (pa_cons (pe_bltn (v := .ty "list") (by rfl) T.z_list (by decide +kernel) rfl) pa_nil))) (pe_callB call_isi (by rfl) T.z_isinstance (by first | exact PySem.boot_isinstance | decide +kernel) (pa_cons (pv 0) (pa_cons (pe_bltn (v := .ty "list") (by rfl) T.z_list (by decide +kernel) rfl) pa_nil))) (nomark _))))) (pss_one (ps_ret pe_bl)) pss_nil)
      (pss_cons (ps_if (pt_cmpR op_ne (pe_callB call_len_seq (by rfl) T.z_len (by first | exact PySem.boot_len | decide +kernel) (pa_cons (pv 0) pa_nil)) (pe_callB call_len_seq (by rfl) T.z_len (by first | exact PySem.boot_len | decide +kernel) (pa_cons (pv 1) pa_nil)) (nomark _)) (pss_one (ps_ret pe_bl)) pss_nil)
      (pss_cons (ps_for PassesOwn.never rfl (pi_range1 (by rfl) T.z_range (pa_cons (pe_callB call_len_seq (by rfl) T.z_len (by first | exact PySem.boot_len | decide +kernel) (pa_cons (pv 1) pa_nil)) pa_nil)) (pg_name (i := 2) sc_law_same.nd rfl (by first | exact Or.inl rfl | exact Or.inr rfl)) (pss_one (ps_if (pt_not (pt_truth (pe_call G hr (by rfl) T.m_law_same T.F_law_same.kp T.b_law_same .nil pass0 (pa_cons (pe_ix (IxR.or ix_list ix_tup) (pv 0) (pv 2) (fun _ _ => rfl)) (pa_cons (pe_ix (IxR.or ix_list ix_tup) (pv 1) (pv 2) (fun _ _ => rfl)) pa_nil))) (fun _ => rfl))) (pss_one (ps_ret pe_bl)) pss_nil)))
      (pss_one (ps_ret pe_bl))))) pss_nil)
      (pss_cons (ps_if (PW.pt (pw_or (pt_cmpR op_isN (pv 1) pe_non (nomark _)) (pw_or1 (pt_truth (pe_callB call_isi (by rfl) T.z_isinstance (by first | exact PySem.boot_isinstance | decide +kernel) (pa_cons (pv 1) (pa_cons (pe_bltn (v := .ty "bool") (by rfl) T.z_bool (by decide +kernel) rfl) pa_nil))) (fun _ => rfl))))) (pss_one (ps_ret (pe_and (pe_cmpR op_eq (pe_cmpR op_isN (pv 0) pe_non (nomark _)) (pe_cmpR op_isN (pv 1) pe_non (nomark _)) (nomark _)) (pe_and (pe_or (pe_cmpR op_isN (pv 1) pe_non (nomark _)) (pe_one (pe_callB call_isi (by rfl) T.z_isinstance (by first | exact PySem.boot_isinstance | decide +kernel) (pa_cons (pv 0) (pa_cons (pe_bltn (v := .ty "bool") (by rfl) T.z_bool (by decide +kernel) rfl) pa_nil))))) (pe_one (pe_cmpR op_eq (pv 0) (pv 1) (nomark _))))))) pss_nil)
      (pss_cons (ps_if (pt_truth (pe_callB call_isi (by rfl) T.z_isinstance (by first | exact PySem.boot_isinstance | decide +kernel) (pa_cons (pv 1) (pa_cons (pe_bltn (v := .ty "int") (by rfl) T.z_int (by decide +kernel) rfl) pa_nil))) (fun _ => rfl)) (pss_one (ps_ret (pe_and (pe_callB call_isi (by rfl) T.z_isinstance (by first | exact PySem.boot_isinstance | decide +kernel) (pa_cons (pv 0) (pa_cons (pe_bltn (v := .ty "int") (by rfl) T.z_int (by decide +kernel) rfl) pa_nil))) (pe_and (pe_not (pe_callB call_isi (by rfl) T.z_isinstance (by first | exact PySem.boot_isinstance | decide +kernel) (pa_cons (pv 0) (pa_cons (pe_bltn (v := .ty "bool") (by rfl) T.z_bool (by decide +kernel) rfl) pa_nil)))) (pe_one (pe_cmpR op_eq (pv 0) (pv 1) (nomark _))))))) pss_nil)
      (pss_one (ps_ret (pe_and (pe_callB call_isi (by rfl) T.z_isinstance (by first | exact PySem.boot_isinstance | decide +kernel) (pa_cons (pv 0) (pa_cons (pe_bltn (v := .ty "str") (by rfl) T.z_str (by decide +kernel) rfl) pa_nil))) (pe_one (pe_cmpR op_eq (pv 0) (pv 1) (nomark _))))))))), ?_⟩
  cases d with
  | dict kvs => cases hx
  | none =>
    cases hx
    cases hy
    refine ⟨_, rfl, .non, .ty "tuple", .type "NoneType", .type "tuple", false, rfl, .ty _, .base .non, kit_ty (by decide +kernel), false, rfl, ?_⟩
    refine ⟨_, rfl, .non, .ty "list", .type "NoneType", .type "list", false, rfl, .ty _, .base .non, kit_ty (by decide +kernel), false, rfl, ?_⟩
    refine ⟨_, rfl, rfl, _, rfl, ?_⟩
    refine ⟨_, rfl, rfl, _, rfl, rfl, rfl, _, rfl, ?_⟩
    refine ⟨_, rfl, rfl, _, rfl, ?_⟩
    exact ⟨_, rfl, _, rfl, _, rfl, rfl, q⟩
  | bool b =>
    cases hx
    cases hy
    refine ⟨_, rfl, .bl b, .ty "tuple", .type "bool", .type "tuple", false, rfl, .ty _, .base (.bl b), kit_ty (by decide +kernel), false, rfl, ?_⟩
    refine ⟨_, rfl, .bl b, .ty "list", .type "bool", .type "list", false, rfl, .ty _, .base (.bl b), kit_ty (by decide +kernel), false, rfl, ?_⟩
    refine ⟨_, rfl, rfl, _, rfl, ?_⟩
    refine ⟨_, rfl, .bl b, .ty "bool", .type "bool", .type "bool", true, rfl, .ty _, .base (.bl b), kit_ty (by decide +kernel), true, rfl, ?_⟩
    refine ⟨_, rfl, rfl, _, rfl, rfl, rfl, _, rfl, ?_⟩
    refine ⟨_, rfl, rfl, _, rfl, ?_⟩
    refine ⟨_, rfl, .bl b, .ty "bool", .type "bool", .type "bool", true, rfl, .ty _, .base (.bl b), kit_ty (by decide +kernel), _, rfl, ?_⟩
    refine ⟨_, rfl, _, rfl, rfl, ?_⟩
    show Q (.bl (decide (V.bl b = V.bl b))) _
    rw [decide_eq_true rfl]
    exact q
  | int i =>
    cases hx
    cases hy
    refine ⟨_, rfl, .int i, .ty "tuple", .type "int", .type "tuple", false, rfl, .ty _, .base (.int i), kit_ty (by decide +kernel), false, rfl, ?_⟩
    refine ⟨_, rfl, .int i, .ty "list", .type "int", .type "list", false, rfl, .ty _, .base (.int i), kit_ty (by decide +kernel), false, rfl, ?_⟩
    refine ⟨_, rfl, rfl, _, rfl, ?_⟩
    refine ⟨_, rfl, .int i, .ty "bool", .type "int", .type "bool", false, rfl, .ty _, .base (.int i), kit_ty (by decide +kernel), false, rfl, ?_⟩
    refine ⟨_, rfl, .int i, .ty "int", .type "int", .type "int", true, rfl, .ty _, .base (.int i), kit_ty (by decide +kernel), true, rfl, ?_⟩
    refine ⟨_, rfl, .int i, .ty "int", .type "int", .type "int", true, rfl, .ty _, .base (.int i), kit_ty (by decide +kernel), _, rfl, ?_⟩
    refine ⟨_, rfl, .int i, .ty "bool", .type "int", .type "bool", false, rfl, .ty _, .base (.int i), kit_ty (by decide +kernel), _, rfl, _, rfl, ?_⟩
    refine ⟨_, rfl, _, rfl, rfl, ?_⟩
    show Q (.bl (decide (V.int i = V.int i))) _
    rw [decide_eq_true rfl]
    exact q
  | str x =>
    cases hx
    cases hy
    refine ⟨_, rfl, .str x, .ty "tuple", .type "str", .type "tuple", false, rfl, .ty _, .base (.str x), kit_ty (by decide +kernel), false, rfl, ?_⟩
    refine ⟨_, rfl, .str x, .ty "list", .type "str", .type "list", false, rfl, .ty _, .base (.str x), kit_ty (by decide +kernel), false, rfl, ?_⟩
    refine ⟨_, rfl, rfl, _, rfl, ?_⟩
    refine ⟨_, rfl, .str x, .ty "bool", .type "str", .type "bool", false, rfl, .ty _, .base (.str x), kit_ty (by decide +kernel), false, rfl, ?_⟩
    refine ⟨_, rfl, .str x, .ty "int", .type "str", .type "int", false, rfl, .ty _, .base (.str x), kit_ty (by decide +kernel), false, rfl, ?_⟩
    refine ⟨_, rfl, .str x, .ty "str", .type "str", .type "str", true, rfl, .ty _, .base (.str x), kit_ty (by decide +kernel), _, rfl, ?_⟩
    refine ⟨_, rfl, _, rfl, rfl, ?_⟩
    show Q (.bl (decide (V.str x = V.str x))) _
    rw [decide_eq_true rfl]
    exact q
  | tuple ds =>
    cases hx with
    | @tup px xs _ hpx lx ex =>
    cases hy with
    | @tup py ys _ hpy ly ey =>
    simp only [wide, Bool.and_eq_true, decide_eq_true_eq] at hw
    have hl : ((xs.length : Nat) : Int) = ((ys.length : Nat) : Int) := by rw [lx, ly]
    refine ⟨_, rfl, .ref py, .ty "tuple", .type "tuple", .type "tuple", true, rfl, .ty _, .base (.tup hpy), kit_ty (by decide +kernel), true, rfl, ?_⟩
    refine ⟨_, rfl, .ref py, .ty "tuple", .type "tuple", .type "tuple", true, rfl, .ty _, .base (.tup hpy), kit_ty (by decide +kernel), _, rfl, .ref px, .ty "tuple", .type "tuple", .type "tuple", true, rfl, .ty _, .base (.tup hpx), kit_ty (by decide +kernel), rfl, _, rfl, ?_⟩
    refine ⟨_, rfl, .ref py, .ty "list", .type "tuple", .type "list", false, rfl, .ty _, .base (.tup hpy), kit_ty (by decide +kernel), _, rfl, .ref px, .ty "list", .type "tuple", .type "list", false, rfl, .ty _, .base (.tup hpx), kit_ty (by decide +kernel), rfl, _, rfl, ?_⟩
    refine ⟨_, rfl, px, xs, rfl, .inr (SqT.of hpx), _, rfl, py, ys, rfl, .inr (SqT.of hpy), rfl, _, rfl, iteNS (congrArg V.int hl) ?_⟩
    refine ⟨_, rfl, py, ys, rfl, .inr (SqT.of hpy), _, rfl, by omega, by omega, for_range (fun i σ' H' => ∃ yk, σ' = [some (.ref px), some (.ref py), yk] ∧ H' = H) ⟨_, rfl, rfl⟩ ?_ ?_⟩
    · rintro i σ1 H1 hi ⟨yk, rfl, rfl⟩
      have hi2 : i < ds.length := by rw [← ly]; exact hi
      have gd : ds[i]? = some ds[i] := List.getElem?_eq_getElem hi2
      have gx : xs[i]? = some xs[i] := List.getElem?_eq_getElem (by rw [lx]; exact hi2)
      have gy : ys[i]? = some ys[i] := List.getElem?_eq_getElem (by rw [ly]; exact hi2)
      have e0 : (0 : Int) + (i : Int) = ((i : Nat) : Int) := Int.zero_add _
      refine ⟨_, rfl, _, rfl, .inr ⟨px, xs, _, _, rfl, rfl, SqT.of hpx, at_of e0 gx, _, rfl, _, rfl, .inr ⟨py, ys, _, _, rfl, rfl, SqT.of hpy, at_of e0 gy, xs[i], ys[i], ds[i], rfl, ex i _ _ gx gd, ey i _ _ gy gd, ?_, wide_get hw.2 gd, true, rfl, _, rfl, rfl⟩⟩⟩
      have dg := depth_get gd
      simp only [PyData.depth] at hd
      omega
    · rintro σ1 H1 ⟨yk, rfl, rfl⟩
      exact q
  | list ds =>
    cases hx with
    | @lst px xs _ hpx lx ex =>
    cases hy with
    | @lst py ys _ hpy ly ey =>
    simp only [wide, Bool.and_eq_true, decide_eq_true_eq] at hw
    have hl : ((xs.length : Nat) : Int) = ((ys.length : Nat) : Int) := by rw [lx, ly]
    refine ⟨_, rfl, .ref py, .ty "tuple", .type "list", .type "tuple", false, rfl, .ty _, .base (.lst hpy), kit_ty (by decide +kernel), false, rfl, ?_⟩
    refine ⟨_, rfl, .ref py, .ty "list", .type "list", .type "list", true, rfl, .ty _, .base (.lst hpy), kit_ty (by decide +kernel), true, rfl, ?_⟩
    refine ⟨_, rfl, .ref py, .ty "tuple", .type "list", .type "tuple", false, rfl, .ty _, .base (.lst hpy), kit_ty (by decide +kernel), _, rfl, .ref px, .ty "tuple", .type "list", .type "tuple", false, rfl, .ty _, .base (.lst hpx), kit_ty (by decide +kernel), rfl, _, rfl, ?_⟩
    refine ⟨_, rfl, .ref py, .ty "list", .type "list", .type "list", true, rfl, .ty _, .base (.lst hpy), kit_ty (by decide +kernel), _, rfl, .ref px, .ty "list", .type "list", .type "list", true, rfl, .ty _, .base (.lst hpx), kit_ty (by decide +kernel), rfl, _, rfl, ?_⟩
    refine ⟨_, rfl, px, xs, rfl, .inl (SqL.of hpx), _, rfl, py, ys, rfl, .inl (SqL.of hpy), rfl, _, rfl, iteNS (congrArg V.int hl) ?_⟩
    refine ⟨_, rfl, py, ys, rfl, .inl (SqL.of hpy), _, rfl, by omega, by omega, for_range (fun i σ' H' => ∃ yk, σ' = [some (.ref px), some (.ref py), yk] ∧ H' = H) ⟨_, rfl, rfl⟩ ?_ ?_⟩
    · rintro i σ1 H1 hi ⟨yk, rfl, rfl⟩
      have hi2 : i < ds.length := by rw [← ly]; exact hi
      have gd : ds[i]? = some ds[i] := List.getElem?_eq_getElem hi2
      have gx : xs[i]? = some xs[i] := List.getElem?_eq_getElem (by rw [lx]; exact hi2)
      have gy : ys[i]? = some ys[i] := List.getElem?_eq_getElem (by rw [ly]; exact hi2)
      have e0 : (0 : Int) + (i : Int) = ((i : Nat) : Int) := Int.zero_add _
      refine ⟨_, rfl, _, rfl, .inl ⟨px, xs, _, _, rfl, rfl, SqL.of hpx, at_of e0 gx, _, rfl, _, rfl, .inl ⟨py, ys, _, _, rfl, rfl, SqL.of hpy, at_of e0 gy, xs[i], ys[i], ds[i], rfl, ex i _ _ gx gd, ey i _ _ gy gd, ?_, wide_get hw.2 gd, true, rfl, _, rfl, rfl⟩⟩⟩
      have dg := depth_get gd
      simp only [PyData.depth] at hd
      omega
    · rintro σ1 H1 ⟨yk, rfl, rfl⟩
      exact q
theorem ok_law_same (T : Txt K mg) : ∀ n, FnOk P w K mg base CX0 (0 + n) T.a_law_same T.d_law_same ["actual", "due"] (sp_law_same T n)
  | 0 => ⟨fun vs H Q E h => absurd h (no_law_same T vs H Q E), fun A outer s H args us vs Q E _ _ _ _ h => absurd h (no_law_same T vs H Q E)⟩
  | n + 1 => step_law_same T (ok_law_same T n)
/-! ### _law_keys -/
def sp_law_keys (T : Txt K mg) : Sp := fun vs H Q _ => vs = [] ∧ ∀ (p : Addr) (H' : Hp), Same H H' → H p = none → H' p = some (.lst (kwL.map V.str)) → Q (.ref p) H'

theorem ok_law_keys (T : Txt K mg) : FnOk P w K mg base CX0 1 T.a_law_keys T.d_law_keys [] (sp_law_keys T) := by
  refine T.F_law_keys.ok sc_law_keys (fun vs H Q E h => ?_) (fun cdv A outer s H vs Q E hr h => ?_)
  · obtain ⟨rfl, _⟩ := h
    rfl
  obtain ⟨rfl, q⟩ := h
  refine ⟨_, (pss_cons (ps_set (i := 0) sc_law_keys.nd rfl (by first | exact Or.inl rfl | exact Or.inr rfl) pe_str)
      (pss_one (ps_ret (pe_bm PySem.F.plainAttrs_str PySem.F.slot_str_split PySem.F.type_str_split mt_split (pe_op op_add_str (pv 0) pe_str) (pa_cons pe_str pa_nil))))), ?_⟩
  refine ⟨_, rfl, _, _, rfl, rfl, by decide +kernel, rfl, _, _, rfl, rfl, by decide +kernel, by decide +kernel, fun p hp => ?_⟩
  refine q p _ (same_upd hp) hp ?_
  rw [upd_same, kw_split]
/-! ### _law_name -/
def sp_law_name (T : Txt K mg) : Sp := fun vs H Q _ => ∃ (p c pt : Addr) (ts : List Str) (b : Int), vs = [.ref p, .ref pt] ∧ Pool H p c b ∧ pt ≠ p ∧ H pt = some (.lst (ts.map V.str)) ∧ ts.length < 20 ∧ ∀ (x : Str) (H' : Hp), Nm x → x ∉ ts → But p H H' → Pool H' p c b → Q (.str x) H'

theorem ok_law_name (T : Txt K mg) : FnOk P w K mg base CX0 3 T.a_law_name T.d_law_name ["pool", "taken"] (sp_law_name T) := by
  refine T.F_law_name.ok sc_law_name (fun vs H Q E h => ?_) (fun cdv A outer s H vs Q E hr h => ?_)
  · obtain ⟨p, c, pt, ts, b, rfl, _⟩ := h
    rfl
  obtain ⟨p, c, pt, ts, b, rfl, hP, npt, ht, h20, q⟩ := h
  refine ⟨_, (pss_cons (ps_set (i := 2) sc_law_name.nd rfl (by first | exact Or.inl rfl | exact Or.inr rfl) pe_str)
      (pss_cons (ps_set (i := 3) sc_law_name.nd rfl (by first | exact Or.inl rfl | exact Or.inr rfl) (pe_ix ix_str (pv 2) (pe_call (ok_law_draw T) (hr.mono (by decide)) (by rfl) T.m_law_draw T.F_law_draw.kp T.b_law_draw .nil pass0 (pa_cons (pv 0) (pa_cons pe_int pa_nil))) (fun _ _ => rfl)))
      (pss_cons (ps_for PassesOwn.never rfl (pi_range1 (by rfl) T.z_range (pa_cons (pe_call (ok_law_few T) (hr.mono (by decide)) (by rfl) T.m_law_few T.F_law_few.kp T.b_law_few .nil pass0 (pa_cons (pv 0) (pa_cons pe_int pa_nil))) pa_nil)) (pg_name (i := 4) sc_law_name.nd rfl (by first | exact Or.inl rfl | exact Or.inr rfl)) (pss_one (ps_set (i := 3) sc_law_name.nd rfl (by first | exact Or.inl rfl | exact Or.inr rfl) (pe_op op_add_str (pv 3) (pe_ix ix_str (pv 2) (pe_call (ok_law_draw T) (hr.mono (by decide)) (by rfl) T.m_law_draw T.F_law_draw.kp T.b_law_draw .nil pass0 (pa_cons (pv 0) (pa_cons pe_int pa_nil))) (fun _ _ => rfl))))))
      (C8.pss_cut (ps_if (PW.pt (pw_or (pt_cmpR op_in_seq (pv 3) (pv 1) (by with_unfolding_all rfl)) (pw_or1 (pt_cmpR op_in_seq (pv 3) (pe_call0 (ok_law_keys T) (hr.mono (by decide)) (by rfl) T.m_law_keys T.F_law_keys.kp T.b_law_keys .nil pass0) (by with_unfolding_all rfl))))) (pss_one (ps_for PassesOwn.never rfl (pi_range1 (by rfl) T.z_range (pa_cons pe_int pa_nil)) (pg_name (i := 4) sc_law_name.nd rfl (by first | exact Or.inl rfl | exact Or.inr rfl)) (pss_one (ps_if (pt_cmpR op_notIn_seq (pe_op op_add_str pe_str (pe_callTy call_str_int (by rfl) T.z_str (by first | exact PySem.boot_str | decide +kernel) (pa_cons (pv 4) pa_nil))) (pv 1) (by with_unfolding_all rfl)) (pss_one (ps_set (i := 3) sc_law_name.nd rfl (by first | exact Or.inl rfl | exact Or.inr rfl) (pe_op op_add_str pe_str (pe_callTy call_str_int (by rfl) T.z_str (by first | exact PySem.boot_str | decide +kernel) (pa_cons (pv 4) pa_nil))))) pss_nil)))) pss_nil)
      (pss_one (ps_ret (pv 3))))))), ?_⟩
  refine ⟨_, rfl, _, rfl, p, c, 26, b, rfl, by decide, by decide, hP, fun r H1 r0 r1 b1 P1 => ?_⟩
  obtain ⟨d, ad, ld⟩ := ld_let r0 r1
  refine ⟨ldN, r, d, rfl, rfl, by decide +kernel, ad, ?_⟩
  refine ⟨_, rfl, p, c, 11, b, rfl, by decide, by decide, P1, fun m H2 m0 m1 b2 P2 => ?_⟩
  refine ⟨m, rfl, by omega, by omega, for_range (fun i σ' H' => ∃ (x : Str) (y : Option V), σ' = [some (.ref p), some (.ref pt), some (.str ldN), some (.str x), y] ∧ But p H H' ∧ Pool H' p c b ∧ ∃ r, x.cps.toList = d :: r ∧ (∀ d ∈ r, NmC d) ∧ r.length = i) ⟨_, _, rfl, b1.trans b2, P2, [], rfl, (fun _ m => by cases m), rfl⟩ ?_ ?_⟩
  · rintro i σ3 H3 hi ⟨x, y, rfl, b3, P3, rr, xe, xn, xl⟩
    refine ⟨_, rfl, _, rfl, _, rfl, p, c, 36, b, rfl, by decide, by decide, P3, fun r H4 r0 r1 b4 P4 => ?_⟩
    obtain ⟨d2, ad2, ld2⟩ := ld_nm r0 r1
    have xL : x.length = i + 1 := by
      show x.cps.toList.length = i + 1
      rw [xe, List.length_cons, xl]
    refine ⟨ldN, r, d2, rfl, rfl, by decide +kernel, ad2, x, _, rfl, rfl, ?_, ⟨_, _, rfl, b3.trans b4, P4, rr ++ [d2], ?_, ?_, ?_⟩⟩
    · show x.length + 1 ≤ sizeLine
      exact small_le (by omega)
    · rw [app_cps, xe]
      rfl
    · intro d3 m3
      rcases List.mem_append.mp m3 with m3 | m3
      · exact xn d3 m3
      · rw [List.mem_singleton.mp m3]
        exact ld2
    · rw [List.length_append, xl]
      rfl
  · rintro σ3 H3 ⟨x0, y, rfl, b3, P3, rr, xe, xn, xl⟩
    have et := b3 _ _ npt ht
    have xF : NmF x0 := ⟨d, rr, xe, ld, xn, by omega⟩
    refine ⟨fun σ' H' => ∃ (x : Str) (y : Option V), σ' = [some (.ref p), some (.ref pt), some (.str ldN), some (.str x), y] ∧ But p H H' ∧ Pool H' p c b ∧ Nm x ∧ x ∉ ts, ?_, ?_⟩
    · refine ⟨_, rfl, _, rfl, pt, ts.map V.str, rfl, .inl (SqL.of et), rfl, strs_flat ts, _, rfl, ite2 (fun _ => ?_) (fun c1 => ?_)⟩
      · refine ⟨20, rfl, by decide, by decide, for_range (fun i σ' H' => ∃ (x : Str) (y : Option V), σ' = [some (.ref p), some (.ref pt), some (.str ldN), some (.str x), y] ∧ H' = H3 ∧ VW ts x0 i x) ⟨_, _, rfl, rfl, .inr ⟨rfl, fun k z => absurd z (Nat.not_lt_zero k)⟩⟩ ?_ ?_⟩
        · rintro i σ6 H6 hi ⟨x6, y6, rfl, rfl, vw⟩
          obtain ⟨sl, lg⟩ := small_str (k := 0 + (i : Int)) (by omega) (by omega)
          refine ⟨_, rfl, _, rfl, lg, _, _, rfl, rfl, ?_, _, rfl, pt, _, rfl, .inl (SqL.of et), rfl, strs_flat ts, _, rfl, ite2 (fun c => ?_) (fun c => ⟨_, _, rfl, rfl, ?_⟩)⟩
          · show 1 + _ ≤ sizeLine
            exact small_le (by omega)
          · refine ⟨_, rfl, _, rfl, lg, _, _, rfl, rfl, ?_, ⟨_, _, rfl, rfl, .inl ?_⟩⟩
            · show 1 + _ ≤ sizeLine
              exact small_le (by omega)
            · have c2 := not_in c
              show Nm (("v" : Str) ++ Str.ofString (toString (0 + (i : Int)))) ∧ ("v" : Str) ++ Str.ofString (toString (0 + (i : Int))) ∉ ts
              have c2 : ("v" : Str) ++ Str.ofString (toString (0 + (i : Int))) ∉ ts := c2
              rw [vS_val] at c2 ⊢
              exact ⟨vS_nm (by omega), c2⟩
          · have c2 : ("v" : Str) ++ Str.ofString (toString (0 + (i : Int))) ∈ ts := is_in c
            rw [vS_val] at c2
            exact vw.next c2
        · rintro σ6 H6 ⟨x6, y6, rfl, rfl, vw⟩
          obtain ⟨w1, w2⟩ := VW.fin vw h20
          exact ⟨_, _, rfl, b3, P3, w1, w2⟩

      · refine ⟨_, rfl, rfl, fun pk H5 s5 n5 e5 => ?_⟩
        have b5 := b3.trans (but_of s5)
        have P5 := P3.same s5
        have et5 := s5 _ _ et
        refine ⟨pk, _, rfl, .inl (SqL.of e5), rfl, strs_flat kwL, _, rfl, ite2 (fun _ => ?_) (fun c2 => ⟨_, _, rfl, b5, P5, ⟨xF, inv_f c2⟩, inv_f c1⟩)⟩
        refine ⟨20, rfl, by decide, by decide, for_range (fun i σ' H' => ∃ (x : Str) (y : Option V), σ' = [some (.ref p), some (.ref pt), some (.str ldN), some (.str x), y] ∧ H' = H5 ∧ VW ts x0 i x) ⟨_, _, rfl, rfl, .inr ⟨rfl, fun k z => absurd z (Nat.not_lt_zero k)⟩⟩ ?_ ?_⟩
        · rintro i σ6 H6 hi ⟨x6, y6, rfl, rfl, vw⟩
          obtain ⟨sl, lg⟩ := small_str (k := 0 + (i : Int)) (by omega) (by omega)
          refine ⟨_, rfl, _, rfl, lg, _, _, rfl, rfl, ?_, _, rfl, pt, _, rfl, .inl (SqL.of et5), rfl, strs_flat ts, _, rfl, ite2 (fun c => ?_) (fun c => ⟨_, _, rfl, rfl, ?_⟩)⟩
          · show 1 + _ ≤ sizeLine
            exact small_le (by omega)
          · refine ⟨_, rfl, _, rfl, lg, _, _, rfl, rfl, ?_, ⟨_, _, rfl, rfl, .inl ?_⟩⟩
            · show 1 + _ ≤ sizeLine
              exact small_le (by omega)
            · have c2 := not_in c
              show Nm (("v" : Str) ++ Str.ofString (toString (0 + (i : Int)))) ∧ ("v" : Str) ++ Str.ofString (toString (0 + (i : Int))) ∉ ts
              have c2 : ("v" : Str) ++ Str.ofString (toString (0 + (i : Int))) ∉ ts := c2
              rw [vS_val] at c2 ⊢
              exact ⟨vS_nm (by omega), c2⟩
          · have c2 : ("v" : Str) ++ Str.ofString (toString (0 + (i : Int))) ∈ ts := is_in c
            rw [vS_val] at c2
            exact vw.next c2
        · rintro σ6 H6 ⟨x6, y6, rfl, rfl, vw⟩
          obtain ⟨w1, w2⟩ := VW.fin vw h20
          exact ⟨_, _, rfl, b5, P5, w1, w2⟩
    · rintro σ4 H4 ⟨x, y, rfl, b4, P4, nx, fx⟩
      exact ⟨_, rfl, q x H4 nx fx b4 P4⟩
/-! ### _law_names -/
def sp_law_names (T : Txt K mg) : Sp := fun vs H Q _ => ∃ (p c : Addr) (m b : Int), vs = [.ref p, .int m] ∧ 0 ≤ m ∧ m < 20 ∧ Pool H p c b ∧ ∀ (pn : Addr) (ns : List Str) (H' : Hp), But p H H' → Pool H' p c b → H pn = none → H' pn = some (.lst (ns.map V.str)) → (ns.length : Int) ≤ m → (∀ x ∈ ns, Nm x) → ns.Nodup → Q (.ref pn) H'

theorem ok_law_names (T : Txt K mg) : FnOk P w K mg base CX0 4 T.a_law_names T.d_law_names ["pool", "most"] (sp_law_names T) := by
  refine T.F_law_names.ok sc_law_names (fun vs H Q E h => ?_) (fun cdv A outer s H vs Q E hr h => ?_)
  · obtain ⟨p, c, m, b, rfl, _⟩ := h
    rfl
  obtain ⟨p, c, m, b, rfl, m0, m1, hP, q⟩ := h
  refine ⟨_, (pss_cons (ps_set (i := 2) sc_law_names.nd rfl (by first | exact Or.inl rfl | exact Or.inr rfl) (pe_lst pa_nil))
      (pss_cons (ps_for PassesOwn.never rfl (pi_range1 (by rfl) T.z_range (pa_cons (pe_call (ok_law_few T) (hr.mono (by decide)) (by rfl) T.m_law_few T.F_law_few.kp T.b_law_few .nil pass0 (pa_cons (pv 0) (pa_cons (pv 1) pa_nil))) pa_nil)) (pg_name (i := 3) sc_law_names.nd rfl (by first | exact Or.inl rfl | exact Or.inr rfl)) (pss_one (ps_expr (pe_bm PySem.F.plainAttrs_list PySem.F.slot_list_append PySem.F.type_list_append mt_append (pv 2) (pa_cons (pe_call (ok_law_name T) (hr.mono (by decide)) (by rfl) T.m_law_name T.F_law_name.kp T.b_law_name .nil pass0 (pa_cons (pv 0) (pa_cons (pv 2) pa_nil))) pa_nil)))))
      (pss_one (ps_ret (pv 2))))), ?_⟩
  refine ⟨by show 0 ≤ sizeLine; decide, fun W hW => ?_⟩
  have nW := hP.ne hW
  have nW2 := hP.ne2 hW
  refine ⟨_, rfl, _, rfl, p, c, m, b, rfl, m0, by omega, hP.upd nW nW2 _, fun k H2 k0 k1 b2 P2 => ?_⟩
  refine ⟨k, rfl, by omega, by omega, for_range (fun i σ' H' => ∃ (ns : List Str) (y : Option V), σ' = [some (.ref p), some (.int m), some (.ref W), y] ∧ But p H H' ∧ Pool H' p c b ∧ H' W = some (.lst (ns.map V.str)) ∧ ns.length = i ∧ (∀ x ∈ ns, Nm x) ∧ ns.Nodup)
    ⟨[], _, rfl, (but_of (same_upd hW)).trans b2, P2, b2 _ _ nW upd_same, rfl, (fun _ m => by cases m), List.nodup_nil⟩ ?_ ?_⟩
  · rintro i σ3 H3 hi ⟨ns, y, rfl, b3, P3, e3, l3, n3, d3⟩
    refine ⟨_, rfl, .inl ⟨rfl, _, SqL.of e3⟩, _, rfl, _, rfl, p, c, W, ns, b, rfl, P3, nW, e3, by omega, fun x H4 nx fx b4 P4 => ?_⟩
    refine ⟨W, _, _, rfl, rfl, b4 _ _ nW e3, ?_, ⟨ns ++ [x], _, rfl, fun d o nd eo => ?_, P4.upd nW nW2 _, ?_, ?_, ?_, ?_⟩⟩
    · rw [List.length_map]
      exact small1000 (by omega)
    · rw [upd_ne (ne_of_none eo hW)]
      exact (b3.trans b4) d o nd eo
    · rw [upd_same, List.map_append]
      rfl
    · rw [List.length_append, l3]
      rfl
    · intro z mz
      rcases List.mem_append.mp mz with mz | mz
      · exact n3 z mz
      · rw [List.mem_singleton.mp mz]
        exact nx
    · rw [List.nodup_append]
      refine ⟨d3, List.nodup_cons.mpr ⟨by simp, List.nodup_nil⟩, fun a ma b mb => ?_⟩
      rw [List.mem_singleton.mp mb]
      exact fun e => fx (e ▸ ma)
  · rintro σ3 H3 ⟨ns, y, rfl, b3, P3, e3, l3, n3, d3⟩
    exact ⟨_, rfl, q W ns H3 b3 P3 hW e3 (by omega) n3 d3⟩
/-! ### _law_expression -/
def signM : List Str := ["+", "-", "*", "/", "mod", "<", "=", "+", "-", "/"]
def sp_law_expression (T : Txt K mg) (n : Nat) : Sp := fun vs H Q _ => ∃ (p c pn pp : Addr) (ns ps : List Str) (br : Bool) (deep b : Int), vs = [.ref p, .ref pn, .ref pp, .bl br, .int deep] ∧ 1 ≤ deep ∧ deep ≤ n ∧ Pool H p c b ∧ pn ≠ p ∧ pp ≠ p ∧ H pn = some (.lst (ns.map V.str)) ∧ H pp = some (.lst (ps.map V.str)) ∧
  ns.length ≤ 100 ∧ ps.length ≤ 100 ∧ ∀ (v : V) (e : Ex) (H' : Hp) (b' : Int), Ev H' v e → (e.deep : Int) ≤ deep → e.Wf ns ps → e.Se br → But p H H' → Pool H' p c b' → Q v H'
theorem no_law_expression (T : Txt K mg) : ∀ vs H Q E, ¬ sp_law_expression T 0 vs H Q E := fun vs H Q E ⟨_, _, _, _, _, _, _, _, _, _, h1, h2, _⟩ => by omega

theorem step_law_expression (T : Txt K mg) {n : Nat} (G : FnOk P w K mg base CX0 (2 + n) T.a_law_expression T.d_law_expression ["pool", "names", "picks", "brain", "deep"] (sp_law_expression T n)) : FnOk P w K mg base CX0 (2 + n + 1) T.a_law_expression T.d_law_expression ["pool", "names", "picks", "brain", "deep"] (sp_law_expression T (n + 1)) := by
  refine T.F_law_expression.ok sc_law_expression (fun vs H Q E h => ?_) (fun cdv A outer s H vs Q E hr h => ?_)
  · obtain ⟨p, c, pn, pp, ns, ps, br, deep, b, rfl, _⟩ := h
    rfl
  obtain ⟨p, c, pn, pp, ns, ps, br, deep, b, rfl, d0, d1, hP, npn, npp, hn, hp, ln, lp, q⟩ := h
  refine ⟨_, (pss_cons (ps_set (i := 5) sc_law_expression.nd rfl (by first | exact Or.inl rfl | exact Or.inr rfl) (pe_call (ok_law_draw T) (hr.mono (by omega)) (by rfl) T.m_law_draw T.F_law_draw.kp T.b_law_draw .nil pass0 (pa_cons (pv 0) (pa_cons pe_int pa_nil))))
      (C8.pss_cut (ps_if (PW.pt (pw_and (pt_cmpR op_gt (pv 4) pe_int (nomark _)) (pw_and (pt_cmpR op_lt (pv 5) pe_int (nomark _)) (pw_and1 (pt_truth (pe_call (ok_law_spend T) (hr.mono (by omega)) (by rfl) T.m_law_spend T.F_law_spend.kp T.b_law_spend .nil pass0 (pa_cons (pv 0) pa_nil)) (fun _ => rfl)))))) (C8.pss_cut (ps_if (PW.pt (pw_and (pt_cmpR op_gt (pv 5) pe_int (nomark _)) (pw_and (pt_truth (pv 3) (fun _ => rfl)) (pw_and1 (PW.pt (pw_or (pt_cmpR op_eq (pv 5) pe_int (nomark _)) (pw_or1 (pt_not (pt_truth (pv 2) (fun _ => rfl)))))))))) (pss_one (ps_ret (pe_tup (pa_cons pe_str (pa_cons (pe_call G hr (by rfl) T.m_law_expression T.F_law_expression.kp T.b_law_expression .nil pass0 (pa_cons (pv 0) (pa_cons (pv 1) (pa_cons (pv 2) (pa_cons (pv 3) (pa_cons (pe_op op_sub (pv 4) pe_int) pa_nil)))))) pa_nil))))) pss_nil)
      (C8.pss_cut (ps_if (PW.pt (pw_and (pt_cmpR op_gt (pv 5) pe_int (nomark _)) (pw_and1 (pt_truth (pv 2) (fun _ => rfl))))) (pss_cons (ps_set (i := 6) sc_law_expression.nd rfl (by first | exact Or.inl rfl | exact Or.inr rfl) (pe_ix ix_list (pv 2) (pe_call (ok_law_draw T) (hr.mono (by omega)) (by rfl) T.m_law_draw T.F_law_draw.kp T.b_law_draw .nil pass0 (pa_cons (pv 0) (pa_cons (pe_callB call_len_seq (by rfl) T.z_len (by first | exact PySem.boot_len | decide +kernel) (pa_cons (pv 2) pa_nil)) pa_nil))) (fun _ _ => rfl)))
      (pss_cons (ps_set (i := 7) sc_law_expression.nd rfl (by first | exact Or.inl rfl | exact Or.inr rfl) (pe_call G hr (by rfl) T.m_law_expression T.F_law_expression.kp T.b_law_expression .nil pass0 (pa_cons (pv 0) (pa_cons (pv 1) (pa_cons (pv 2) (pa_cons (pv 3) (pa_cons (pe_op op_sub (pv 4) pe_int) pa_nil)))))))
      (pss_one (ps_ret (pe_tup (pa_cons pe_str (pa_cons (pv 6) (pa_cons (pv 7) (pa_cons (pe_call G hr (by rfl) T.m_law_expression T.F_law_expression.kp T.b_law_expression .nil pass0 (pa_cons (pv 0) (pa_cons (pv 1) (pa_cons (pv 2) (pa_cons (pv 3) (pa_cons (pe_op op_sub (pv 4) pe_int) pa_nil)))))) pa_nil))))))))) pss_nil)
      (pss_cons (ps_set (i := 8) sc_law_expression.nd rfl (by first | exact Or.inl rfl | exact Or.inr rfl) (pe_ix ix_tup (pe_tup (pa_cons pe_str (pa_cons pe_str (pa_cons pe_str (pa_cons pe_str (pa_cons pe_str (pa_cons pe_str (pa_cons pe_str (pa_cons pe_str (pa_cons pe_str (pa_cons pe_str pa_nil))))))))))) (pv 5) (fun _ _ => rfl)))
      (pss_cons (ps_set (i := 7) sc_law_expression.nd rfl (by first | exact Or.inl rfl | exact Or.inr rfl) (pe_call G hr (by rfl) T.m_law_expression T.F_law_expression.kp T.b_law_expression .nil pass0 (pa_cons (pv 0) (pa_cons (pv 1) (pa_cons (pv 2) (pa_cons (pv 3) (pa_cons (pe_op op_sub (pv 4) pe_int) pa_nil)))))))
      (pss_one (ps_ret (pe_tup (pa_cons (pv 8) (pa_cons (pv 7) (pa_cons (pe_call G hr (by rfl) T.m_law_expression T.F_law_expression.kp T.b_law_expression .nil pass0 (pa_cons (pv 0) (pa_cons (pv 1) (pa_cons (pv 2) (pa_cons (pv 3) (pa_cons (pe_op op_sub (pv 4) pe_int) pa_nil)))))) pa_nil)))))))))) pss_nil)
      (C8.pss_cut (ps_if (PW.pt (pw_and (pt_truth (pv 3) (fun _ => rfl)) (pw_and1 (pt_cmpR op_eq (pv 5) pe_int (nomark _))))) (pss_one (ps_ret (pe_tup (pa_cons pe_str pa_nil)))) pss_nil)
      (pss_cons (ps_if (PW.pt (pw_and (pt_truth (pv 1) (fun _ => rfl)) (pw_and1 (pt_cmpR op_eq (pe_op op_mod (pe_callTy call_int1 (by rfl) T.z_int (by first | exact PySem.boot_int | decide +kernel) (pa_cons (pv 5) pa_nil)) pe_int) pe_int (nomark _))))) (pss_one (ps_ret (pe_tup (pa_cons pe_str (pa_cons (pe_ix ix_list (pv 1) (pe_call (ok_law_draw T) (hr.mono (by omega)) (by rfl) T.m_law_draw T.F_law_draw.kp T.b_law_draw .nil pass0 (pa_cons (pv 0) (pa_cons (pe_callB call_len_seq (by rfl) T.z_len (by first | exact PySem.boot_len | decide +kernel) (pa_cons (pv 1) pa_nil)) pa_nil))) (fun _ _ => rfl)) pa_nil))))) pss_nil)
      (pss_one (ps_ret (pe_tup (pa_cons pe_str (pa_cons (pe_call (ok_law_number T) (hr.mono (by omega)) (by rfl) T.m_law_number T.F_law_number.kp T.b_law_number .nil pass0 (pa_cons (pv 0) pa_nil)) pa_nil))))))))), ?_⟩
  refine ⟨_, rfl, p, c, 14, b, rfl, by decide, by decide, hP, fun k H1 h0 h1 b1 P1 => ?_⟩
  refine ⟨fun σ' H' => ∃ (y1 y2 y3 : Option V) (b' : Int), σ' = [some (.ref p), some (.ref pn), some (.ref pp), some (.bl br), some (.int deep), some (.int k), y1, y2, y3] ∧ But p H H' ∧ Pool H' p c b', ?_, ?_⟩
  · refine ⟨_, rfl, _, _, rfl, rfl, _, rfl, ite2 (fun c1 => ?_) (fun _ => ⟨_, _, _, b, rfl, b1, P1⟩)⟩
    refine ⟨_, rfl, _, _, rfl, rfl, _, rfl, ite2 (fun c2 => ?_) (fun _ => ⟨_, _, _, b, rfl, b1, P1⟩)⟩
    have c1' : (1 : Int) < deep := of_decide_eq_true c1
    have c2' : k < (10 : Int) := of_decide_eq_true c2
    refine ⟨_, rfl, p, c, b, rfl, P1, fun kk H2 b' b2 P2 => ⟨_, rfl, ite2 (fun _ => ?_) (fun _ => ⟨_, _, _, b', rfl, b1.trans b2, P2⟩)⟩⟩
    have bb := b1.trans b2
    refine ⟨fun σ' H' => σ' = [some (.ref p), some (.ref pn), some (.ref pp), some (.bl br), some (.int deep), some (.int k), none, none, none] ∧ H' = H2, ?_, ?_⟩
    · refine ⟨_, rfl, _, _, rfl, rfl, _, rfl, ite2 (fun c3 => ?_) (fun _ => ⟨rfl, rfl⟩)⟩
      refine ⟨_, rfl, _, rfl, ite2 (fun c4 => ?_) (fun _ => ⟨rfl, rfl⟩)⟩
      have hbr : br = true := c4
      have view : ∀ (G : Prop), (G → G) → True := fun _ _ => trivial
      refine ⟨_, rfl, rfl, _, rfl, ite2 (fun c5 => ?_) (fun c5 => ?_)⟩
      · refine ⟨_, rfl, _, rfl, _, rfl, _, rfl, _, rfl, _, _, rfl, rfl, p, c, pn, pp, ns, ps, br, deep - 1, b', rfl, by omega, by omega, P2, npn, npp, bb _ _ npn hn, bb _ _ npp hp, ln, lp, fun v e H3 b3' ev ed ew es b3 P3 => ⟨by show 2 ≤ sizeLine; decide, fun U hU => ?_⟩⟩
        refine q _ (.view e) _ b3' (.view upd_same (ev.keep (keepT_of (same_upd hU)))) ?_ ew ⟨hbr, es⟩ ((bb.trans b3).trans (but_of (same_upd hU))) (P3.upd (P3.ne hU) (P3.ne2 hU) _)
        show ((e.deep + 1 : Nat) : Int) ≤ deep
        omega
      · refine ⟨_, rfl, _, .inl ⟨_, SqL.of (bb _ _ npp hp), rfl⟩, ?_⟩
        refine ite2 (fun c6 => ?_) (fun c6 => ⟨rfl, rfl⟩)
        refine ⟨_, rfl, _, rfl, _, rfl, _, rfl, _, rfl, _, _, rfl, rfl, p, c, pn, pp, ns, ps, br, deep - 1, b', rfl, by omega, by omega, P2, npn, npp, bb _ _ npn hn, bb _ _ npp hp, ln, lp, fun v e H3 b3' ev ed ew es b3 P3 => ⟨by show 2 ≤ sizeLine; decide, fun U hU => ?_⟩⟩
        refine q _ (.view e) _ b3' (.view upd_same (ev.keep (keepT_of (same_upd hU)))) ?_ ew ⟨hbr, es⟩ ((bb.trans b3).trans (but_of (same_upd hU))) (P3.upd (P3.ne hU) (P3.ne2 hU) _)
        show ((e.deep + 1 : Nat) : Int) ≤ deep
        omega
    rintro σ3 H3 ⟨rfl, rfl⟩
    refine ⟨fun σ' H' => ∃ (y1 y2 y3 : Option V), σ' = [some (.ref p), some (.ref pn), some (.ref pp), some (.bl br), some (.int deep), some (.int k), y1, y2, y3] ∧ H' = H3, ?_, ?_⟩
    · refine ⟨_, rfl, _, _, rfl, rfl, _, rfl, ite2 (fun c4 => ⟨_, rfl, _, .inl ⟨_, SqL.of (bb _ _ npp hp), rfl⟩, ite2 (fun c5 => ?_) (fun _ => ⟨_, _, _, rfl, rfl⟩)⟩) (fun _ => ⟨_, _, _, rfl, rfl⟩)⟩
      have lpos : 0 < ps.length := by
        cases ps with
        | nil => cases c5
        | cons x r => exact Nat.succ_pos _
      refine ⟨_, rfl, _, rfl, _, rfl, pp, _, rfl, .inl (SqL.of (bb _ _ npp hp)), p, c, ((ps.map V.str).length : Int), b', rfl, by rw [List.length_map]; omega, by rw [List.length_map]; omega, P2, fun j H3 j0 j1 b3 P3 => ?_⟩
      rw [List.length_map] at j1
      obtain ⟨x, mx, ax⟩ := pick j0 j1
      have bc := bb.trans b3
      refine ⟨pp, _, j, _, rfl, rfl, SqL.of (bc _ _ npp hp), ax, ?_⟩
      refine ⟨_, rfl, _, rfl, _, rfl, _, rfl, _, rfl, _, _, rfl, rfl, p, c, pn, pp, ns, ps, br, deep - 1, b', rfl, by omega, by omega, P3, npn, npp, bc _ _ npn hn, bc _ _ npp hp, ln, lp, fun v e H4 b4' ev ed ew es b4 P4 => ?_⟩
      have bd := bc.trans b4
      refine ⟨_, rfl, _, rfl, _, rfl, _, rfl, _, rfl, _, rfl, _, rfl, _, _, rfl, rfl, p, c, pn, pp, ns, ps, br, deep - 1, b4', rfl, by omega, by omega, P4, npn, npp, bd _ _ npn hn, bd _ _ npp hp, ln, lp, fun v2 e2 H5 b5' ev2 ed2 ew2 es2 b5 P5 => ⟨by show 4 ≤ sizeLine; decide, fun U hU => ?_⟩⟩
      have k5 := (P4.keepT b5).trans (keepT_of (same_upd (o := .tup [V.str "pick", .str x, v, v2]) hU))
      refine q _ (.pick x e e2) _ b5' (.pick upd_same (ev.keep k5) (ev2.keep (keepT_of (same_upd hU)))) ?_ ⟨mx, ew, ew2⟩ ⟨es, es2⟩ ((bd.trans b5).trans (but_of (same_upd hU))) (P5.upd (P5.ne hU) (P5.ne2 hU) _)
      show ((max e.deep e2.deep + 1 : Nat) : Int) ≤ deep
      omega
    · rintro σ4 H4 ⟨y1, y2, y3, rfl, rfl⟩
      refine ⟨by show 10 ≤ sizeLine; decide, fun U0 hU0 => ?_⟩
      have s3 := same_upd (o := .tup (signM.map V.str)) hU0
      have P3 := P2.upd (P2.ne hU0) (P2.ne2 hU0) (.tup (signM.map V.str))
      obtain ⟨z, mz, az⟩ := pick (ss := signM) h0 (by show k < 10; omega)
      have hz : z ∈ opL := by
        have : signM.all (fun s => decide (s ∈ opL)) = true := by decide +kernel
        exact of_decide_eq_true (List.all_eq_true.mp this z mz)
      have bc := bb.trans (but_of s3)
      refine ⟨_, rfl, U0, _, k, _, rfl, rfl, SqT.of upd_same, az, ?_⟩
      refine ⟨_, rfl, _, rfl, _, rfl, _, rfl, _, rfl, _, _, rfl, rfl, p, c, pn, pp, ns, ps, br, deep - 1, b', rfl, by omega, by omega, P3, npn, npp, bc _ _ npn hn, bc _ _ npp hp, ln, lp, fun v e H4 b4' ev ed ew es b4 P4 => ?_⟩
      have bd := bc.trans b4
      refine ⟨_, rfl, _, rfl, _, rfl, _, rfl, _, rfl, _, rfl, _, rfl, _, _, rfl, rfl, p, c, pn, pp, ns, ps, br, deep - 1, b4', rfl, by omega, by omega, P4, npn, npp, bd _ _ npn hn, bd _ _ npp hp, ln, lp, fun v2 e2 H5 b5' ev2 ed2 ew2 es2 b5 P5 => ⟨by show 3 ≤ sizeLine; decide, fun U hU => ?_⟩⟩
      have k5 := (P4.keepT b5).trans (keepT_of (same_upd (o := .tup [V.str z, v, v2]) hU))
      refine q _ (.op z e e2) _ b5' (.op upd_same (ev.keep k5) (ev2.keep (keepT_of (same_upd hU)))) ?_ ⟨hz, ew, ew2⟩ ⟨es, es2⟩ ((bd.trans b5).trans (but_of (same_upd hU))) (P5.upd (P5.ne hU) (P5.ne2 hU) _)
      show ((max e.deep e2.deep + 1 : Nat) : Int) ≤ deep
      omega
  · rintro σ2 H2 ⟨y1, y2, y3, b', rfl, b2, P2⟩
    refine ⟨fun σ' H' => ∃ (y1 y2 y3 : Option V), σ' = [some (.ref p), some (.ref pn), some (.ref pp), some (.bl br), some (.int deep), some (.int k), y1, y2, y3] ∧ H' = H2, ?_, ?_⟩
    · refine ⟨_, rfl, _, rfl, ite2 (fun c1 => ?_) (fun _ => ⟨_, _, _, rfl, rfl⟩)⟩
      refine ⟨_, rfl, rfl, _, rfl, ite2 (fun _ => ⟨by show 1 ≤ sizeLine; decide, fun U hU => ?_⟩) (fun _ => ⟨_, _, _, rfl, rfl⟩)⟩
      exact q _ .long _ b' (.long upd_same) d0 trivial c1 (b2.trans (but_of (same_upd hU))) (P2.upd (P2.ne hU) (P2.ne2 hU) _)
    rintro σ3 H3 ⟨y1, y2, y3, rfl, rfl⟩
    refine ⟨_, rfl, _, .inl ⟨_, SqL.of (b2 _ _ npn hn), rfl⟩, ite2 (fun c1 => ⟨_, rfl, .inl ⟨_, rfl, _, _, rfl, rfl, (by show (0 : Int) < 2; decide), rfl, _, rfl, ite2 (fun _ => ?_) (fun _ => ?_)⟩⟩) (fun _ => ?_)⟩
    · have lpos : 0 < ns.length := by
        cases ns with
        | nil => cases c1
        | cons x r => exact Nat.succ_pos _
      refine ⟨_, rfl, _, rfl, _, rfl, pn, _, rfl, .inl (SqL.of (b2 _ _ npn hn)), p, c, ((ns.map V.str).length : Int), b', rfl, by rw [List.length_map]; omega, by rw [List.length_map]; omega, P2, fun j H3 j0 j1 b3 P3 => ?_⟩
      rw [List.length_map] at j1
      obtain ⟨x, mx, ax⟩ := pick j0 j1
      have bc := b2.trans b3
      refine ⟨pn, _, j, _, rfl, rfl, SqL.of (bc _ _ npn hn), ax, ⟨by show 2 ≤ sizeLine; decide, fun U hU => ?_⟩⟩
      exact q _ (.var x) _ b' (.var upd_same) d0 mx trivial (bc.trans (but_of (same_upd hU))) (P3.upd (P3.ne hU) (P3.ne2 hU) _)
    · refine ⟨_, rfl, p, c, b', rfl, P2, fun m H3 bm b3 P3 => ⟨by show 2 ≤ sizeLine; decide, fun U hU => ?_⟩⟩
      exact q _ (.num m) _ b' (.num upd_same) d0 bm trivial ((b2.trans b3).trans (but_of (same_upd hU))) (P3.upd (P3.ne hU) (P3.ne2 hU) _)
    · refine ⟨_, rfl, p, c, b', rfl, P2, fun m H3 bm b3 P3 => ⟨by show 2 ≤ sizeLine; decide, fun U hU => ?_⟩⟩
      exact q _ (.num m) _ b' (.num upd_same) d0 bm trivial ((b2.trans b3).trans (but_of (same_upd hU))) (P3.upd (P3.ne hU) (P3.ne2 hU) _)
theorem ok_law_expression (T : Txt K mg) : ∀ n, FnOk P w K mg base CX0 (2 + n) T.a_law_expression T.d_law_expression ["pool", "names", "picks", "brain", "deep"] (sp_law_expression T n)
  | 0 => ⟨fun vs H Q E h => absurd h (no_law_expression T vs H Q E), fun A outer s H args us vs Q E _ _ _ _ h => absurd h (no_law_expression T vs H Q E)⟩
  | n + 1 => step_law_expression T (ok_law_expression T n)
/-! ### _law_rows -/
def RowV (H : Hp) (v : V) (q : Str × Nat) : Prop := ∃ a, v = .ref a ∧ H a = some (.tup [.str q.1, .int ((q.2 : Nat) : Int)])
theorem RowV.keep {H H' : Hp} (k : KeepT H H') {v : V} {q : Str × Nat} (h : RowV H v q) : RowV H' v q := by
  obtain ⟨a, e, t⟩ := h
  exact ⟨a, e, k _ _ t⟩
def sp_law_rows (T : Txt K mg) (n : Nat) : Sp := fun vs H Q _ => ∃ (v : V) (e : Ex) (l : Nat) (ns ps : List Str), vs = [v, .int ((l : Nat) : Int)] ∧ e.deep ≤ n ∧ n ≤ 13 ∧ Ev H v e ∧ e.Wf ns ps ∧ ∀ (p : Addr) (us : List V) (H' : Hp), Same H H' → H p = none → H' p = some (.lst us) → Paired (RowV H') us (e.rows l) → Q (.ref p) H'
theorem no_law_rows (T : Txt K mg) : ∀ vs H Q E, ¬ sp_law_rows T 0 vs H Q E := fun vs H Q E ⟨_, e, _, _, _, _, h, _⟩ => absurd (deep_pos e) (by omega)
theorem rows_len (e : Ex) (l : Nat) : (e.rows l).length = e.words.length := by rw [← rows_words e l, List.length_map]

theorem step_law_rows (T : Txt K mg) {n : Nat} (G : FnOk P w K mg base CX0 (0 + n) T.a_law_rows T.d_law_rows ["due", "level"] (sp_law_rows T n)) : FnOk P w K mg base CX0 (0 + n + 1) T.a_law_rows T.d_law_rows ["due", "level"] (sp_law_rows T (n + 1)) := by
  refine T.F_law_rows.ok sc_law_rows (fun vs H Q E h => ?_) (fun cdv A outer s H vs Q E hr h => ?_)
  · obtain ⟨v, e, l, ns, ps, rfl, _⟩ := h
    rfl
  obtain ⟨v, e, l, ns, ps, rfl, hd, hn, hv, hw, q⟩ := h
  refine ⟨_, (pss_cons (ps_if (pt_cmpR op_eq (pe_ix ix_tup (pv 0) pe_int (fun _ _ => rfl)) pe_str (nomark _)) (pss_one (ps_ret (pe_lst (pa_cons (pe_tup (pa_cons (pe_callTy call_str_int (by rfl) T.z_str (by first | exact PySem.boot_str | decide +kernel) (pa_cons (pe_ix ix_tup (pv 0) pe_int (fun _ _ => rfl)) pa_nil)) (pa_cons (pv 1) pa_nil))) pa_nil)))) pss_nil)
      (pss_cons (ps_if (pt_cmpR op_eq (pe_ix ix_tup (pv 0) pe_int (fun _ _ => rfl)) pe_str (nomark _)) (pss_one (ps_ret (pe_lst (pa_cons (pe_tup (pa_cons (pe_ix ix_tup (pv 0) pe_int (fun _ _ => rfl)) (pa_cons (pv 1) pa_nil))) pa_nil)))) pss_nil)
      (pss_cons (ps_if (pt_cmpR op_eq (pe_ix ix_tup (pv 0) pe_int (fun _ _ => rfl)) pe_str (nomark _)) (pss_one (ps_ret (pe_lst (pa_cons (pe_tup (pa_cons pe_str (pa_cons (pv 1) pa_nil))) pa_nil)))) pss_nil)
      (pss_cons (ps_if (pt_cmpR op_eq (pe_ix ix_tup (pv 0) pe_int (fun _ _ => rfl)) pe_str (nomark _)) (pss_one (ps_ret (pe_op op_cat (pe_lst (pa_cons (pe_tup (pa_cons pe_str (pa_cons (pe_op op_add (pv 1) pe_int) pa_nil))) pa_nil)) (pe_call G hr (by rfl) T.m_law_rows T.F_law_rows.kp T.b_law_rows .nil pass0 (pa_cons (pe_ix ix_tup (pv 0) pe_int (fun _ _ => rfl)) (pa_cons (pe_op op_add (pv 1) pe_int) pa_nil)))))) pss_nil)
      (pss_cons (ps_if (pt_cmpR op_eq (pe_ix ix_tup (pv 0) pe_int (fun _ _ => rfl)) pe_str (nomark _)) (pss_one (ps_ret (pe_op op_cat (pe_op op_cat (pe_lst (pa_cons (pe_tup (pa_cons pe_str (pa_cons (pe_op op_add (pv 1) pe_int) pa_nil))) (pa_cons (pe_tup (pa_cons (pe_ix ix_tup (pv 0) pe_int (fun _ _ => rfl)) (pa_cons (pv 1) pa_nil))) pa_nil))) (pe_call G hr (by rfl) T.m_law_rows T.F_law_rows.kp T.b_law_rows .nil pass0 (pa_cons (pe_ix ix_tup (pv 0) pe_int (fun _ _ => rfl)) (pa_cons (pe_op op_add (pv 1) pe_int) pa_nil)))) (pe_call G hr (by rfl) T.m_law_rows T.F_law_rows.kp T.b_law_rows .nil pass0 (pa_cons (pe_ix ix_tup (pv 0) pe_int (fun _ _ => rfl)) (pa_cons (pe_op op_add (pv 1) pe_int) pa_nil)))))) pss_nil)
      (pss_one (ps_ret (pe_op op_cat (pe_op op_cat (pe_lst (pa_cons (pe_tup (pa_cons (pe_ix ix_tup (pv 0) pe_int (fun _ _ => rfl)) (pa_cons (pe_op op_add (pv 1) pe_int) pa_nil))) pa_nil)) (pe_call G hr (by rfl) T.m_law_rows T.F_law_rows.kp T.b_law_rows .nil pass0 (pa_cons (pe_ix ix_tup (pv 0) pe_int (fun _ _ => rfl)) (pa_cons (pe_op op_add (pv 1) pe_int) pa_nil)))) (pe_call G hr (by rfl) T.m_law_rows T.F_law_rows.kp T.b_law_rows .nil pass0 (pa_cons (pe_ix ix_tup (pv 0) pe_int (fun _ _ => rfl)) (pa_cons (pe_op op_add (pv 1) pe_int) pa_nil))))))))))), ?_⟩
  obtain ⟨n1, n2, n3, n4, n5, n6, n7, n8, n9, n10⟩ := num_ne
  have wl := words_le (Nat.le_trans hd hn)
  rw [← rows_len e l] at wl
  have big : ∀ {k : Nat}, k ≤ 16384 → k ≤ sizeLine := fun h => Nat.le_trans h (by rw [sizeLine_eq]; decide)
  cases hv with
  | @num a m ha =>
    refine ⟨_, rfl, a, _, 0, .str "number", rfl, rfl, SqT.of ha, atI_nat (j := 0) rfl, rfl, _, rfl, iteS ?_⟩
    refine ⟨_, rfl, a, _, 1, .int m, rfl, rfl, SqT.of ha, atI_nat (j := 1) rfl, m, rfl, ?_, _, rfl, by show 2 ≤ sizeLine; decide, fun U fU => ⟨by show 1 ≤ sizeLine; decide, fun p fp => ?_⟩⟩
    · obtain ⟨j, rfl⟩ : ∃ j : Nat, m = (j : Int) := ⟨m.toNat, by have := hw.1; omega⟩
      exact log_small (Nat.lt_of_lt_of_le (show j < 65536 by have := hw.2; omega) (by decide +kernel))
    · exact q p _ _ (upd2_same fU fp) ((same_upd fU).free fp) upd_same (.cons ⟨U, rfl, same_upd fp _ _ upd_same⟩ .nil)
  | @var a x ha =>
    refine ⟨_, rfl, a, _, 0, .str "variable", rfl, rfl, SqT.of ha, atI_nat (j := 0) rfl, rfl, _, rfl, iteN n1 ?_⟩
    refine ⟨_, rfl, a, _, 0, .str "variable", rfl, rfl, SqT.of ha, atI_nat (j := 0) rfl, rfl, _, rfl, iteS ?_⟩
    refine ⟨_, rfl, a, _, 1, .str x, rfl, rfl, SqT.of ha, atI_nat (j := 1) rfl, _, rfl, by show 2 ≤ sizeLine; decide, fun U fU => ⟨by show 1 ≤ sizeLine; decide, fun p fp => ?_⟩⟩
    exact q p _ _ (upd2_same fU fp) ((same_upd fU).free fp) upd_same (.cons ⟨U, rfl, same_upd fp _ _ upd_same⟩ .nil)
  | @long a ha =>
    refine ⟨_, rfl, a, _, 0, .str "long", rfl, rfl, SqT.of ha, atI_nat (j := 0) rfl, rfl, _, rfl, iteN n2 ?_⟩
    refine ⟨_, rfl, a, _, 0, .str "long", rfl, rfl, SqT.of ha, atI_nat (j := 0) rfl, rfl, _, rfl, iteN n5 ?_⟩
    refine ⟨_, rfl, a, _, 0, .str "long", rfl, rfl, SqT.of ha, atI_nat (j := 0) rfl, rfl, _, rfl, iteS ?_⟩
    refine ⟨_, rfl, by show 2 ≤ sizeLine; decide, fun U fU => ⟨by show 1 ≤ sizeLine; decide, fun p fp => ?_⟩⟩
    exact q p _ _ (upd2_same fU fp) ((same_upd fU).free fp) upd_same (.cons ⟨U, rfl, same_upd fp _ _ upd_same⟩ .nil)
  | @view a v e ha hv =>
    have hd' : e.deep + 1 ≤ n + 1 := hd
    refine ⟨_, rfl, a, _, 0, .str "view", rfl, rfl, SqT.of ha, atI_nat (j := 0) rfl, rfl, _, rfl, iteN n3 ?_⟩
    refine ⟨_, rfl, a, _, 0, .str "view", rfl, rfl, SqT.of ha, atI_nat (j := 0) rfl, rfl, _, rfl, iteN n6 ?_⟩
    refine ⟨_, rfl, a, _, 0, .str "view", rfl, rfl, SqT.of ha, atI_nat (j := 0) rfl, rfl, _, rfl, iteN n8 ?_⟩
    refine ⟨_, rfl, a, _, 0, .str "view", rfl, rfl, SqT.of ha, atI_nat (j := 0) rfl, rfl, _, rfl, iteS ?_⟩
    refine ⟨_, rfl, _, _, rfl, rfl, by show 2 ≤ sizeLine; decide, fun U fU => ⟨by show 1 ≤ sizeLine; decide, fun L fL => ?_⟩⟩
    have s1 := upd2_same (o := .tup [V.str "view", .int ((l : Int) + 1)]) (o' := .lst [V.ref U]) fU fL
    refine ⟨_, rfl, a, _, 1, v, rfl, rfl, SqT.of (s1 _ _ ha), atI_nat (j := 1) rfl, _, rfl, _, _, rfl, rfl, v, e, l + 1, ns, ps, rfl, by omega, by omega, hv.keep (keepT_of s1), hw, fun p us H2 s2 np e2 r2 => ?_⟩
    refine ⟨L, p, _, _, rfl, rfl, s2 _ _ upd_same, e2, ?_, fun R fR => ?_⟩
    · rw [paired_len r2]
      exact big (by show 0 + 1 + (e.rows (l + 1)).length ≤ 16384; have : (e.rows (l + 1)).length + 1 + 2 ≤ 2 ^ (13 + 1) := wl; omega)
    have s3 := same_upd (o := .lst ([V.ref U] ++ us)) fR
    refine q R _ _ ((s1.trans s2).trans s3) ((s1.trans s2).free fR) upd_same (.cons ⟨U, rfl, s3 _ _ (s2 _ _ (same_upd fL _ _ upd_same))⟩ ?_)
    exact L2.Paired.mapP r2 fun _ _ y => y.keep (keepT_of s3)
  | @pick a x v w e f ha hv hv2 =>
    have hd' : max e.deep f.deep + 1 ≤ n + 1 := hd
    have wl' : ((e.rows (l + 1)) ++ (f.rows (l + 1))).length + 1 + 1 + 2 ≤ 2 ^ (13 + 1) := wl
    rw [List.length_append] at wl'
    refine ⟨_, rfl, a, _, 0, .str "pick", rfl, rfl, SqT.of ha, atI_nat (j := 0) rfl, rfl, _, rfl, iteN n4 ?_⟩
    refine ⟨_, rfl, a, _, 0, .str "pick", rfl, rfl, SqT.of ha, atI_nat (j := 0) rfl, rfl, _, rfl, iteN n7 ?_⟩
    refine ⟨_, rfl, a, _, 0, .str "pick", rfl, rfl, SqT.of ha, atI_nat (j := 0) rfl, rfl, _, rfl, iteN n9 ?_⟩
    refine ⟨_, rfl, a, _, 0, .str "pick", rfl, rfl, SqT.of ha, atI_nat (j := 0) rfl, rfl, _, rfl, iteN n10 ?_⟩
    refine ⟨_, rfl, a, _, 0, .str "pick", rfl, rfl, SqT.of ha, atI_nat (j := 0) rfl, rfl, _, rfl, iteS ?_⟩
    refine ⟨_, rfl, _, _, rfl, rfl, by show 2 ≤ sizeLine; decide, fun U fU => ?_⟩
    have sU := same_upd (o := .tup [V.str "pick", .int ((l : Int) + 1)]) fU
    refine ⟨_, rfl, a, _, 1, .str x, rfl, rfl, SqT.of (sU _ _ ha), atI_nat (j := 1) rfl, _, rfl, by show 2 ≤ sizeLine; decide, fun U2 fU2 => ⟨by show 2 ≤ sizeLine; decide, fun L fL => ?_⟩⟩
    have s1 := sU.trans (upd2_same (o := .tup [V.str x, .int (l : Int)]) (o' := .lst [V.ref U, .ref U2]) fU2 fL)
    refine ⟨_, rfl, a, _, 2, v, rfl, rfl, SqT.of (s1 _ _ ha), atI_nat (j := 2) rfl, _, rfl, _, _, rfl, rfl, v, e, l + 1, ns, ps, rfl, by omega, by omega, hv.keep (keepT_of s1), hw.2.1, fun p us H2 s2 np e2 r2 => ?_⟩
    have pl := paired_len r2
    refine ⟨L, p, _, _, rfl, rfl, s2 _ _ upd_same, e2, ?_, fun R fR => ?_⟩
    · rw [pl]
      exact big (by show 0 + 1 + 1 + (e.rows (l + 1)).length ≤ 16384; omega)
    have s3 := same_upd (o := .lst ([V.ref U, .ref U2] ++ us)) fR
    have s13 := (s1.trans s2).trans s3
    refine ⟨_, rfl, a, _, 3, w, rfl, rfl, SqT.of (s13 _ _ ha), atI_nat (j := 3) rfl, _, rfl, _, _, rfl, rfl, w, f, l + 1, ns, ps, rfl, by omega, by omega, hv2.keep (keepT_of s13), hw.2.2, fun p2 us2 H4 s4 np2 e4 r4 => ?_⟩
    have pl2 := paired_len r4
    refine ⟨R, p2, _, _, rfl, rfl, s4 _ _ upd_same, e4, ?_, fun R2 fR2 => ?_⟩
    · rw [List.length_append, pl, pl2]
      exact big (by show 0 + 1 + 1 + (e.rows (l + 1)).length + (f.rows (l + 1)).length ≤ 16384; omega)
    have s5 := same_upd (o := .lst ([V.ref U, .ref U2] ++ us ++ us2)) fR2
    have sLast := s2.trans (s3.trans (s4.trans s5))
    refine q R2 _ _ (s13.trans (s4.trans s5)) ((s13.trans s4).free fR2) upd_same ?_
    refine paired_app (.cons ⟨U, rfl, sLast _ _ (upd2_same fU2 fL _ _ upd_same)⟩ (.cons ⟨U2, rfl, sLast _ _ (same_upd fL _ _ upd_same)⟩ (L2.Paired.mapP r2 fun _ _ y => y.keep (keepT_of (s3.trans (s4.trans s5)))))) (L2.Paired.mapP r4 fun _ _ y => y.keep (keepT_of s5))
  | @op a z v w e f ha hv hv2 =>
    have hd' : max e.deep f.deep + 1 ≤ n + 1 := hd
    have wl' : ((e.rows (l + 1)) ++ (f.rows (l + 1))).length + 1 + 2 ≤ 2 ^ (13 + 1) := wl
    rw [List.length_append] at wl'
    obtain ⟨m1, m2, m3, m4, m5⟩ := opL_ne hw.1
    refine ⟨_, rfl, a, _, 0, .str z, rfl, rfl, SqT.of ha, atI_nat (j := 0) rfl, rfl, _, rfl, iteN m1 ?_⟩
    refine ⟨_, rfl, a, _, 0, .str z, rfl, rfl, SqT.of ha, atI_nat (j := 0) rfl, rfl, _, rfl, iteN m2 ?_⟩
    refine ⟨_, rfl, a, _, 0, .str z, rfl, rfl, SqT.of ha, atI_nat (j := 0) rfl, rfl, _, rfl, iteN m3 ?_⟩
    refine ⟨_, rfl, a, _, 0, .str z, rfl, rfl, SqT.of ha, atI_nat (j := 0) rfl, rfl, _, rfl, iteN m4 ?_⟩
    refine ⟨_, rfl, a, _, 0, .str z, rfl, rfl, SqT.of ha, atI_nat (j := 0) rfl, rfl, _, rfl, iteN m5 ?_⟩
    refine ⟨_, rfl, a, _, 0, .str z, rfl, rfl, SqT.of ha, atI_nat (j := 0) rfl, _, rfl, _, _, rfl, rfl, by show 2 ≤ sizeLine; decide, fun U fU => ⟨by show 1 ≤ sizeLine; decide, fun L fL => ?_⟩⟩
    have s1 := upd2_same (o := .tup [V.str z, .int ((l : Int) + 1)]) (o' := .lst [V.ref U]) fU fL
    refine ⟨_, rfl, a, _, 1, v, rfl, rfl, SqT.of (s1 _ _ ha), atI_nat (j := 1) rfl, _, rfl, _, _, rfl, rfl, v, e, l + 1, ns, ps, rfl, by omega, by omega, hv.keep (keepT_of s1), hw.2.1, fun p us H2 s2 np e2 r2 => ?_⟩
    have pl := paired_len r2
    refine ⟨L, p, _, _, rfl, rfl, s2 _ _ upd_same, e2, ?_, fun R fR => ?_⟩
    · rw [pl]
      exact big (by show 0 + 1 + (e.rows (l + 1)).length ≤ 16384; omega)
    have s3 := same_upd (o := .lst ([V.ref U] ++ us)) fR
    have s13 := (s1.trans s2).trans s3
    refine ⟨_, rfl, a, _, 2, w, rfl, rfl, SqT.of (s13 _ _ ha), atI_nat (j := 2) rfl, _, rfl, _, _, rfl, rfl, w, f, l + 1, ns, ps, rfl, by omega, by omega, hv2.keep (keepT_of s13), hw.2.2, fun p2 us2 H4 s4 np2 e4 r4 => ?_⟩
    have pl2 := paired_len r4
    refine ⟨R, p2, _, _, rfl, rfl, s4 _ _ upd_same, e4, ?_, fun R2 fR2 => ?_⟩
    · rw [List.length_append, pl, pl2]
      exact big (by show 0 + 1 + (e.rows (l + 1)).length + (f.rows (l + 1)).length ≤ 16384; omega)
    have s5 := same_upd (o := .lst ([V.ref U] ++ us ++ us2)) fR2
    have sLast := s2.trans (s3.trans (s4.trans s5))
    refine q R2 _ _ (s13.trans (s4.trans s5)) ((s13.trans s4).free fR2) upd_same ?_
    refine paired_app (.cons ⟨U, rfl, sLast _ _ (same_upd fL _ _ upd_same)⟩ (L2.Paired.mapP r2 fun _ _ y => y.keep (keepT_of (s3.trans (s4.trans s5))))) (L2.Paired.mapP r4 fun _ _ y => y.keep (keepT_of s5))
theorem ok_law_rows (T : Txt K mg) : ∀ n, FnOk P w K mg base CX0 (0 + n) T.a_law_rows T.d_law_rows ["due", "level"] (sp_law_rows T n)
  | 0 => ⟨fun vs H Q E h => absurd h (no_law_rows T vs H Q E), fun A outer s H args us vs Q E _ _ _ _ h => absurd h (no_law_rows T vs H Q E)⟩
  | n + 1 => step_law_rows T (ok_law_rows T n)
/-! ### _law_read -/
def LrK (C : Addr) (H : Hp) (c : CuI) (r : RdR) (Q : VK) : Prop := match r with
  | .ok e j => ∀ p v H', But c.a H H' → H' p = some (.tup [.str "read", v]) → Ev H' v e → CuX C H' c j → Q (.ref p) H'
  | .bad j => ∀ p H', But c.a H H' → H' p = some (.tup [.str "refused", .int ((j : Nat) : Int), .bl true]) → Q (.ref p) H'
def sp_law_read (T : Txt K mg) : Sp := fun vs H Q _ => ∃ (c : CuI) (i k : Nat), vs = [.ref c.a, .int ((k : Nat) : Int)] ∧ 1 ≤ k ∧ k ≤ 13 ∧ CuX T.C_Cursor H c i ∧ Wds c.ws ∧ c.ws.length < 90000 ∧ LrK T.C_Cursor H c (readM c k i) Q

theorem ok_law_read (T : Txt K mg) : FnOk P w K mg base CX0 32 T.a_law_read T.d_law_read ["cursor", "bound"] (sp_law_read T) := by
  refine T.F_law_read.ok sc_law_read (fun vs H Q E h => ?_) (fun cdv A outer s H vs Q E hr h => ?_)
  · obtain ⟨c, i, k, rfl, _⟩ := h
    rfl
  obtain ⟨c, i, k, rfl, k1, k13, hC, hW, hl, q⟩ := h
  refine ⟨_, (pss_one (ps_try_asN (i := 2) rfl rfl sc_law_read.nd rfl rfl ⟨rfl, by decide, .inl T.m_BadText⟩ takes0 (fun W pn xe tk ow => (by exact (pss_one (ps_ret (pe_tup (pa_cons pe_str (pa_cons (pe_callNT (ok_read_expression_x T 13) (hr.mono (by decide)) (by rfl) T.m_read_expression T.F_read_expression.kp T.kb_read_expression (fun σ => passAt tk σ) (pa_cons (pv 0) pa_nil) (pk_cons (pv 1) pk_nil)) pa_nil))))))) (fun ae oe cls d pn hz hf => (by exact (by exact (pss_one (by exact (ps_ret (by exact (pe_tup (by exact (pa_cons pe_str (pa_cons (by exact (pe_xf T.e_BadText.xf T.e_BadText.no hz hf (by exact (pv 2)))) (pa_cons (by exact (pe_callB (call_isX hz hf) (by rfl) T.z_isinstance (by first | exact PySem.boot_isinstance | decide +kernel) (by exact (pa_cons (by exact (pv 2)) (pa_cons (by exact (pe_glob (v := .ref T.C_GameError) (by rfl) T.m_GameError rfl)) pa_nil))))) pa_nil)))))))))))))), ?_⟩
  refine ⟨_, rfl, _, rfl, rfl, rfl, c, i, k, rfl, k1, k13, hC, hW, hl, ?_⟩
  cases e : readM c k i with
  | ok f j =>
    rw [e] at q
    refine fun v H1 b1 ev C1 => ⟨by show 2 ≤ sizeLine; decide, fun p fp => ?_⟩
    exact q p v _ (b1.trans (but_of (same_upd fp))) upd_same (ev.keep (keepT_of (same_upd fp))) (C1.same (same_upd fp))
  | bad j =>
    rw [e] at q
    refine fun d H1 b1 hv => ?_
    refine ⟨true, T.t_BadText, fun _ ea nea => ?_, fun z => Bool.noConfusion z⟩
    refine ⟨_, rfl, rfl, rfl, d, _, _, rfl, hv, rfl, _, rfl, T.C_BadText, d, _, true, rfl, rfl, T.e_BadText.ox, T.e_BadText.xf, T.i_BadText, hv, .inl ⟨.ref T.C_GameError, .ref T.C_GameError, rfl, fun u h => h, T.kk_BadText_GameError⟩, by show 3 ≤ sizeLine; decide, fun p fp => ?_⟩
    exact q p _ (b1.trans (but_of (same_upd fp))) upd_same
/-! ### _law_stranger -/
theorem make_cur (T : Txt K mg) {H : Hp} {R : Addr → Hp → Prop} {E : XK} {a o1 o2 : Addr} {ws os us : List Str} {se : Bool} (ha : H a = some (.lst (ws.map V.str))) (h1 : H o1 = some (.lst (os.map V.str))) (h2 : H o2 = some (.lst (us.map V.str)))
    (k : ∀ (x wl z1 z2 : Addr) (H' : Hp), Same H H' → H x = none → H wl = none → H z1 = none → H z2 = none → CuX T.C_Cursor H' ⟨x, wl, z1, z2, os, us, ws, se⟩ 0 → R x H') :
    ∀ x dx, H x = none → H dx = none → dx ≠ x → sp_Cursor_init T [.ref x, .ref a, .ref o1, .ref o2, .bl se] (upd (upd H dx (.own x)) x (.ins T.C_Cursor dx [])) (fun v H2 => v = .non ∧ R x H2) E := by
  intro x dx nx nd ne
  have s1 : Same H (upd (upd H dx (.own x)) x (.ins T.C_Cursor dx [])) := fun b o e => by rw [upd_ne (ne_of_none e nx), upd_ne (ne_of_none e nd)]; exact e
  refine ⟨x, dx, a, o1, o2, ws, os, us, se, rfl, upd_same, s1 _ _ ha, s1 _ _ h1, s1 _ _ h2, fun c H' hk e1 e2 e3 e4 e5 f1 f2 f3 hC => ⟨rfl, ?_⟩⟩
  obtain ⟨ca, cwl, cz1, cz2, cops, cvars, cws, cse⟩ := c
  subst e1
  subst e2
  subst e3
  subst e4
  subst e5
  exact k _ cwl cz1 cz2 H' (fun b o e => hk b o (ne_of_none e nx) (s1 _ _ e)) nx (s1.free f1) (s1.free f2) (s1.free f3) hC
def sp_law_stranger (T : Txt K mg) : Sp := fun vs H Q _ => ∃ (pk pp po pu : Addr) (kn os us : List Str), vs = [.ref pk, .ref pp] ∧ H pk = some (.lst (kn.map V.str)) ∧ H pp = some (.lst [.ref po, .ref pu]) ∧ H po = some (.lst (os.map V.str)) ∧ H pu = some (.lst (us.map V.str)) ∧ po ≠ pu ∧ pk ≠ po ∧ pk ≠ pu ∧
  kn.length < 20 ∧ os.length ≤ 100 ∧ us.length ≤ 100 ∧ (∀ x ∈ os, x ∈ kn) ∧ (∀ x ∈ us, x ∈ kn) ∧ (∀ x ∈ kn, Nm x) ∧ ∀ H', (∀ b o, b ≠ po → b ≠ pu → H b = some o → H' b = some o) → Q (.bl true) H'

theorem ok_law_stranger (T : Txt K mg) : FnOk P w K mg base CX0 33 T.a_law_stranger T.d_law_stranger ["known", "passed"] (sp_law_stranger T) := by
  refine T.F_law_stranger.ok sc_law_stranger (fun vs H Q E h => ?_) (fun cdv A outer s H vs Q E hr h => ?_)
  · obtain ⟨pk, pp, po, pu, kn, os, us, rfl, _⟩ := h
    rfl
  obtain ⟨pk, pp, po, pu, kn, os, us, rfl, hk, hp, ho, hu, nou, nko, nku, l20, lo, lu, io, iu, hn, q⟩ := h
  refine ⟨_, (pss_cons (ps_set (i := 2) sc_law_stranger.nd rfl (by first | exact Or.inl rfl | exact Or.inr rfl) pe_str)
      (pss_cons (ps_for PassesOwn.never rfl (pi_range1 (by rfl) T.z_range (pa_cons pe_int pa_nil)) (pg_name (i := 3) sc_law_stranger.nd rfl (by first | exact Or.inl rfl | exact Or.inr rfl)) (pss_one (ps_if (pt_cmpR op_notIn_seq (pe_op op_add_str pe_str (pe_callTy call_str_int (by rfl) T.z_str (by first | exact PySem.boot_str | decide +kernel) (pa_cons (pv 3) pa_nil))) (pv 0) (by with_unfolding_all rfl)) (pss_one (ps_set (i := 2) sc_law_stranger.nd rfl (by first | exact Or.inl rfl | exact Or.inr rfl) (pe_op op_add_str pe_str (pe_callTy call_str_int (by rfl) T.z_str (by first | exact PySem.boot_str | decide +kernel) (pa_cons (pv 3) pa_nil))))) pss_nil)))
      (pss_cons (ps_set (i := 4) sc_law_stranger.nd rfl (by first | exact Or.inl rfl | exact Or.inr rfl) (pe_makeK T.mk_Cursor (ok_Cursor_init T) (hr.mono (by decide)) (by rfl) T.m_Cursor T.kb_Cursor_init pass0 (pa_cons (pe_lst (pa_cons pe_str (pa_cons pe_str (pa_cons (pv 2) pa_nil)))) pa_nil) (pk_cons (pe_ix ix_list (pv 1) pe_int (fun _ _ => rfl)) (pk_cons (pe_ix ix_list (pv 1) pe_int (fun _ _ => rfl)) (pk_cons pe_bl pk_nil)))))
      (pss_cons (ps_set (i := 5) sc_law_stranger.nd rfl (by first | exact Or.inl rfl | exact Or.inr rfl) (pe_makeK T.mk_Cursor (ok_Cursor_init T) (hr.mono (by decide)) (by rfl) T.m_Cursor T.kb_Cursor_init pass0 (pa_cons (pe_lst (pa_cons pe_str (pa_cons (pv 2) (pa_cons pe_str (pa_cons pe_str pa_nil))))) pa_nil) (pk_cons (pe_ix ix_list (pv 1) pe_int (fun _ _ => rfl)) (pk_cons (pe_ix ix_list (pv 1) pe_int (fun _ _ => rfl)) (pk_cons pe_bl pk_nil)))))
      (pss_cons (ps_for PassesOwn.never rfl (pi_list (pv 1)) (pg_name (i := 6) sc_law_stranger.nd rfl (by first | exact Or.inl rfl | exact Or.inr rfl)) (pss_one (ps_expr (pe_bm PySem.F.plainAttrs_list PySem.F.slot_list_append PySem.F.type_list_append mt_append (pv 6) (pa_cons (pv 2) pa_nil)))))
      (pss_one (ps_ret (pe_and (pe_call (ok_law_same T 16) (hr.mono (by decide)) (by rfl) T.m_law_same T.F_law_same.kp T.b_law_same .nil pass0 (pa_cons (pe_call (ok_law_read T) (hr.mono (by decide)) (by rfl) T.m_law_read T.F_law_read.kp T.b_law_read .nil pass0 (pa_cons (pv 4) (pa_cons pe_int pa_nil))) (pa_cons (pe_tup (pa_cons pe_str (pa_cons pe_int (pa_cons pe_bl pa_nil)))) pa_nil))) (pe_one (pe_cmpR (op_eqD (eq_room hr)) (pe_slice sl_tup (pe_call (ok_law_read T) (hr.mono (by decide)) (by rfl) T.m_law_read T.F_law_read.kp T.b_law_read .nil pass0 (pa_cons (pv 5) (pa_cons pe_int pa_nil))) po_none (po_some pe_int)) (pe_tup (pa_cons pe_str pa_nil)) (nomark _))))))))))), ?_⟩
  refine ⟨20, rfl, by decide, by decide, for_range (fun i σ' H' => ∃ (x : Str) (y : Option V), σ' = [some (.ref pk), some (.ref pp), some (.str x), y, none, none, none] ∧ H' = H ∧ WW kn i x) ⟨_, _, rfl, rfl, .inr fun k z => absurd z (Nat.not_lt_zero k)⟩ ?_ ?_⟩
  · rintro i σ6 H6 hi ⟨x6, y6, rfl, rfl, vw⟩
    obtain ⟨sl, lg⟩ := small_str (k := 0 + (i : Int)) (by omega) (by omega)
    refine ⟨_, rfl, _, rfl, lg, _, _, rfl, rfl, ?_, _, rfl, pk, _, rfl, .inl (SqL.of hk), rfl, strs_flat kn, _, rfl, ite2 (fun c => ?_) (fun c => ⟨_, _, rfl, rfl, ?_⟩)⟩
    · show 1 + _ ≤ sizeLine
      exact small_le (by omega)
    · refine ⟨_, rfl, _, rfl, lg, _, _, rfl, rfl, ?_, ⟨_, _, rfl, rfl, .inl ?_⟩⟩
      · show 1 + _ ≤ sizeLine
        exact small_le (by omega)
      · have c2 := not_in c
        show Nm (("w" : Str) ++ Str.ofString (toString (0 + (i : Int)))) ∧ ("w" : Str) ++ Str.ofString (toString (0 + (i : Int))) ∉ kn
        have c2 : ("w" : Str) ++ Str.ofString (toString (0 + (i : Int))) ∉ kn := c2
        rw [wS_val] at c2 ⊢
        exact ⟨wS_nm (by omega), c2⟩
    · have c2 : ("w" : Str) ++ Str.ofString (toString (0 + (i : Int))) ∈ kn := is_in c
      rw [wS_val] at c2
      rcases vw with vw | vw
      · exact .inl vw
      · refine .inr fun k z => ?_
        by_cases g : k = i
        · rw [g]; exact c2
        · exact vw k (by omega)
  rintro σ1 H1 ⟨mo, y, rfl, rfl, vw⟩
  obtain ⟨mn, mk⟩ : Nm mo ∧ mo ∉ kn := by
    rcases vw with vw | vw
    · exact vw
    · exact absurd vw (wS_free l20)
  refine ⟨_, rfl, by show 3 ≤ sizeLine; decide, fun A1 fA1 => ?_⟩
  have sA := same_upd (o := .lst ((["=", "1", mo] : List Str).map V.str)) fA1
  refine ⟨_, rfl, pp, _, 0, .ref po, rfl, rfl, SqL.of (sA _ _ hp), atI_nat (j := 0) rfl, _, rfl, pp, _, 1, .ref pu, rfl, rfl, SqL.of (sA _ _ hp), atI_nat (j := 1) rfl, rfl, rfl, ?_⟩
  refine make_cur T (a := A1) (ws := ["=", "1", mo]) upd_same (sA _ _ ho) (sA _ _ hu) fun x1 w1 y1 t1 H3 s3 f1 f2 f3 f4 C1 => ?_
  have s13 := sA.trans s3
  refine ⟨_, rfl, by show 4 ≤ sizeLine; decide, fun A2 fA2 => ?_⟩
  have sB := same_upd (o := .lst ((["pick", mo, "1", "2"] : List Str).map V.str)) fA2
  have s14 := s13.trans sB
  refine ⟨_, rfl, pp, _, 0, .ref po, rfl, rfl, SqL.of (s14 _ _ hp), atI_nat (j := 0) rfl, _, rfl, pp, _, 1, .ref pu, rfl, rfl, SqL.of (s14 _ _ hp), atI_nat (j := 1) rfl, rfl, rfl, ?_⟩
  refine make_cur T (a := A2) (ws := ["pick", mo, "1", "2"]) upd_same (s14 _ _ ho) (s14 _ _ hu) fun x2 w2 y2 t2 H5 s5 g1 g2 g3 g4 C2 => ?_
  have s15 := s14.trans s5
  replace C1 := C1.same sB
  obtain ⟨dx1, ex1⟩ := C1.2.1
  have n21 : x2 ≠ x1 ∧ w2 ≠ x1 ∧ y2 ≠ x1 ∧ t2 ≠ x1 := ⟨(ne_of_none ex1 g1).symm, (ne_of_none ex1 g2).symm, (ne_of_none ex1 g3).symm, (ne_of_none ex1 g4).symm⟩
  replace C1 : CuX T.C_Cursor H5 ⟨x1, w1, y1, t1, os, us, ["=", "1", mo], false⟩ 0 := C1.same s5
  have fr : ∀ {d z : Addr} {o : HO}, H1 z = some o → H1 d = none → d ≠ z := fun e f g => by rw [g, e] at f; cases f
  have fA : ∀ {d : Addr}, upd H1 A1 (.lst ((["=", "1", mo] : List Str).map V.str)) d = none → H1 d = none := fun f => none_back sA f
  have fB : ∀ {d : Addr}, upd H3 A2 (.lst ((["pick", mo, "1", "2"] : List Str).map V.str)) d = none → H1 d = none := fun f => none_back s14 f
  have n1 : ∀ {z : Addr} {o : HO}, H1 z = some o → x1 ≠ z ∧ w1 ≠ z ∧ y1 ≠ z ∧ t1 ≠ z := fun e => ⟨fr e (fA f1), fr e (fA f2), fr e (fA f3), fr e (fA f4)⟩
  have n2 : ∀ {z : Addr} {o : HO}, H1 z = some o → x2 ≠ z ∧ w2 ≠ z ∧ y2 ≠ z ∧ t2 ≠ z := fun e => ⟨fr e (fB g1), fr e (fB g2), fr e (fB g3), fr e (fB g4)⟩
  have npo : pp ≠ po := fun g => by
    rw [g, ho] at hp
    cases os with
    | nil => cases hp
    | cons a r => cases hp
  have npu : pp ≠ pu := fun g => by
    rw [g, hu] at hp
    cases us with
    | nil => cases hp
    | cons a r => cases hp
  have o5 := s15 _ _ ho
  have u5 := s15 _ _ hu
  have p5 := s15 _ _ hp
  refine ⟨_, rfl, pp, rfl, ⟨_, SqL.of p5⟩, for_list (K := K) (a := pp) (xs := [.ref po, .ref pu]) (fun i σ' H' => ∃ (k' y' : Option V), σ' = [some (.ref pk), some (.ref pp), some (.str mo), k', some (.ref x1), some (.ref x2), y'] ∧ (∀ b o, b ≠ po → b ≠ pu → H5 b = some o → H' b = some o) ∧
    (i = 0 → H' po = some (.lst (os.map V.str))) ∧ (i ≤ 1 → H' pu = some (.lst (us.map V.str)))) ⟨_, _, rfl, fun _ _ _ _ e => e, fun _ => o5, fun _ => u5⟩ ?_ ?_ ?_⟩
  · rintro i σ' H' _ ⟨k', y', rfl, b, _⟩
    exact SqL.of (b _ _ npo npu p5)
  · rintro i z σ' H' hi ⟨k', y', rfl, b, e1, e2⟩
    match i, hi with
    | 0, hi =>
      cases hi
      have eo := e1 rfl
      refine ⟨_, rfl, .inl ⟨rfl, _, SqL.of eo⟩, _, rfl, po, _, _, rfl, rfl, eo, small1000 (by rw [List.length_map]; omega), ⟨_, _, rfl, fun b' o n1 n2 e => ?_, fun z => by omega, fun _ => ?_⟩⟩
      · rw [upd_ne n1]
        exact b _ _ n1 n2 e
      · rw [upd_ne nou.symm]
        exact e2 (by omega)
    | 1, hi =>
      cases hi
      have eo := e2 (by omega)
      refine ⟨_, rfl, .inl ⟨rfl, _, SqL.of eo⟩, _, rfl, pu, _, _, rfl, rfl, eo, small1000 (by rw [List.length_map]; omega), ⟨_, _, rfl, fun b' o n1 n2 e => ?_, fun z => by omega, fun z => by omega⟩⟩
      rw [upd_ne n2]
      exact b _ _ n1 n2 e
  rintro σ6 H6 ⟨k', y', rfl, b6, _, _⟩
  replace C1 : CuX T.C_Cursor H6 ⟨x1, w1, y1, t1, os, us, ["=", "1", mo], false⟩ 0 := CuX.keep2 C1 b6 (n1 ho) (n1 hu)
  replace C2 : CuX T.C_Cursor H6 ⟨x2, w2, y2, t2, os, us, ["pick", mo, "1", "2"], false⟩ 0 := CuX.keep2 C2 b6 (n2 ho) (n2 hu)
  have vN : ∀ x ∈ us, Nm x := fun x m => hn x (iu x m)
  have moA : Asc mo ∧ mo.length ≤ 100 := ⟨mn.1.lt, Nat.le_trans mn.1.len (by decide)⟩
  have W1 : Wds ["=", "1", mo] := fun x m => by
    rcases List.mem_cons.mp m with rfl | m
    · exact asc_of (n := 100) (ss := ["="]) (by decide +kernel) List.mem_cons_self
    rcases List.mem_cons.mp m with rfl | m
    · exact asc_of (n := 100) (ss := ["1"]) (by decide +kernel) List.mem_cons_self
    rw [List.mem_singleton.mp m]
    exact moA
  have W2 : Wds ["pick", mo, "1", "2"] := fun x m => by
    rcases List.mem_cons.mp m with rfl | m
    · exact asc_of (n := 100) (ss := ["pick"]) (by decide +kernel) List.mem_cons_self
    rcases List.mem_cons.mp m with rfl | m
    · exact moA
    exact asc_of (n := 100) (ss := ["1", "2"]) (by decide +kernel) m
  have r1 : readM ⟨x1, w1, y1, t1, os, us, ["=", "1", mo], false⟩ 9 0 = .bad 2 := stranger1 rfl vN mn fun m => mk (iu _ m)
  obtain ⟨j, r2⟩ : ∃ j, readM ⟨x2, w2, y2, t2, os, us, ["pick", mo, "1", "2"], false⟩ 9 0 = .bad j := stranger2 rfl rfl vN fun m => mk (io _ m)
  refine ⟨_, rfl, ⟨x1, w1, y1, t1, os, us, ["=", "1", mo], false⟩, 0, 9, rfl, by decide, by decide, C1, W1, (by show 3 < 90000; decide), ?_⟩
  rw [r1]
  refine fun p7 H7 b7 e7 => ⟨by show 3 ≤ sizeLine; decide, fun U fU => ?_⟩
  have sU := same_upd (o := .tup [V.str "refused", .int 2, .bl true]) fU
  refine ⟨_, _, .tuple [.str "refused", .int 2, .bool true], rfl, ref_da (j := 2) (sU _ _ e7), ref_da (j := 2) upd_same, by decide, by decide, ?_⟩
  refine ⟨_, rfl, iteT ?_⟩
  replace C2 := (C2.butd b7 n21.1 n21.2.1 n21.2.2.1 n21.2.2.2).same sU
  refine ⟨_, rfl, ⟨x2, w2, y2, t2, os, us, ["pick", mo, "1", "2"], false⟩, 0, 9, rfl, by decide, by decide, C2, W2, (by show 4 < 90000; decide), ?_⟩
  rw [r2]
  refine fun p8 H8 b8 e8 => ?_
  refine ⟨_, rfl, p8, _, rfl, SqT.of e8, by show ¬ (HT.sIx 3 0 none = 0 ∧ HT.sIx 3 3 (some 1) = 3); decide, fun p9 f9 => ⟨by show 1 ≤ sizeLine; decide, fun V9 fV => ?_⟩⟩
  refine ⟨.tuple [.str "refused"], .tuple [.str "refused"], .tup (SqT.of (same_upd fV _ _ upd_same)) (.cons (.str _) .nil), .tup (SqT.of upd_same) (.cons (.str _) .nil), by decide +kernel, by decide +kernel, ?_⟩
  have eq1 : PyData.eqv (.tuple [.str "refused"]) (.tuple [.str "refused"]) = true := by decide +kernel
  rw [eq1]
  refine q _ fun b o nb1 nb2 e => ?_
  have e5 := b6 b o nb1 nb2 (s15 _ _ e)
  have e6 := b8 b o (n2 e).1.symm (sU _ _ (b7 b o (n1 e).1.symm e5))
  exact same_upd fV _ _ (same_upd f9 _ _ e6)
/-! ### law -/
structure M13 (H : Hp) (p pn pp pr D : Addr) (ns ps : List Str) (us : List V) (v : V) (e : Ex) : Prop where
  n : H pn = some (.lst (ns.map V.str))
  o : H pp = some (.lst (ps.map V.str))
  r : H pr = some (.lst us)
  d : H D = some (.lst (e.words.map V.str))
  rv : Paired (RowV H) us (e.rows 1)
  ev : Ev H v e
theorem M13.but {H H' : Hp} {p q pn pp pr D : Addr} {ns ps : List Str} {us : List V} {v : V} {e : Ex} (m : M13 H p pn pp pr D ns ps us v e) (b : But q H H') (k : KeepT H H') (n1 : pn ≠ q) (n2 : pp ≠ q) (n3 : pr ≠ q) (n4 : D ≠ q) : M13 H' p pn pp pr D ns ps us v e :=
  ⟨b _ _ n1 m.n, b _ _ n2 m.o, b _ _ n3 m.r, b _ _ n4 m.d, L2.Paired.mapP m.rv fun _ _ y => RowV.keep k y, m.ev.keep k⟩
theorem M13.keep2 {H H' : Hp} {p a b pn pp pr D : Addr} {ns ps : List Str} {us : List V} {v : V} {e : Ex} (m : M13 H p pn pp pr D ns ps us v e) (k : ∀ d o, d ≠ a → d ≠ b → H d = some o → H' d = some o) {xs ys : List V} (ha : H a = some (.lst xs)) (hb : H b = some (.lst ys))
    (n1 : pn ≠ a ∧ pp ≠ a ∧ pr ≠ a ∧ D ≠ a) (n2 : pn ≠ b ∧ pp ≠ b ∧ pr ≠ b ∧ D ≠ b) : M13 H' p pn pp pr D ns ps us v e := by
  have kt : KeepT H H' := fun z zs g => k z _ (fun y => by rw [y, ha] at g; cases g) (fun y => by rw [y, hb] at g; cases g) g
  exact ⟨k _ _ n1.1 n2.1 m.n, k _ _ n1.2.1 n2.2.1 m.o, k _ _ n1.2.2.1 n2.2.2.1 m.r, k _ _ n1.2.2.2 n2.2.2.2 m.d, L2.Paired.mapP m.rv fun _ _ y => RowV.keep kt y, m.ev.keep kt⟩
theorem M13.same {H H' : Hp} {p pn pp pr D : Addr} {ns ps : List Str} {us : List V} {v : V} {e : Ex} (m : M13 H p pn pp pr D ns ps us v e) (s : Same H H') : M13 H' p pn pp pr D ns ps us v e :=
  ⟨s _ _ m.n, s _ _ m.o, s _ _ m.r, s _ _ m.d, L2.Paired.mapP m.rv fun _ _ y => RowV.keep (keepT_of s) y, m.ev.keep (keepT_of s)⟩
def sp_law (T : Txt K mg) : Sp := spLaw K

theorem ok_law (T : Txt K mg) : FnOk P w K mg base CX0 34 T.a_law T.d_law ["script"] (sp_law T) := by
  refine T.F_law.ok sc_law (fun vs H Q E h => ?_) (fun cdv A outer s H vs Q E hr h => ?_)
  · obtain ⟨a, ns, rfl, _⟩ := h
    rfl
  obtain ⟨s0, ns0, rfl, hS, h63, q⟩ := h
  refine ⟨_, (pss_cons (ps_set (i := 1) sc_law.nd rfl (by first | exact Or.inl rfl | exact Or.inr rfl) (pe_call (ok_law_pool T) (hr.mono (by decide)) (by rfl) T.m_law_pool T.F_law_pool.kp T.b_law_pool .nil pass0 (pa_cons (pv 0) (pa_cons pe_int pa_nil))))
      (pss_cons (ps_set (i := 2) sc_law.nd rfl (by first | exact Or.inl rfl | exact Or.inr rfl) (pe_cmpR op_eq (pe_call (ok_law_draw T) (hr.mono (by decide)) (by rfl) T.m_law_draw T.F_law_draw.kp T.b_law_draw .nil pass0 (pa_cons (pv 1) (pa_cons pe_int pa_nil))) pe_int (nomark _)))
      (pss_cons (ps_set (i := 3) sc_law.nd rfl (by first | exact Or.inl rfl | exact Or.inr rfl) (pe_call (ok_law_names T) (hr.mono (by decide)) (by rfl) T.m_law_names T.F_law_names.kp T.b_law_names .nil pass0 (pa_cons (pv 1) (pa_cons pe_int pa_nil))))
      (pss_cons (ps_set (i := 4) sc_law.nd rfl (by first | exact Or.inl rfl | exact Or.inr rfl) (pe_lst pa_nil))
      (C8.pss_cut (ps_if (PW.pt (pw_or (pt_not (pt_truth (pv 2) (fun _ => rfl))) (pw_or1 (pt_cmpR op_eq (pe_call (ok_law_draw T) (hr.mono (by decide)) (by rfl) T.m_law_draw T.F_law_draw.kp T.b_law_draw .nil pass0 (pa_cons (pv 1) (pa_cons pe_int pa_nil))) pe_int (nomark _))))) (pss_one (ps_set (i := 4) sc_law.nd rfl (by first | exact Or.inl rfl | exact Or.inr rfl) (pe_call (ok_law_names T) (hr.mono (by decide)) (by rfl) T.m_law_names T.F_law_names.kp T.b_law_names .nil pass0 (pa_cons (pv 1) (pa_cons pe_int pa_nil))))) pss_nil)
      (pss_cons (ps_set (i := 5) sc_law.nd rfl (by first | exact Or.inl rfl | exact Or.inr rfl) (pe_call (ok_law_expression T 13) (hr.mono (by decide)) (by rfl) T.m_law_expression T.F_law_expression.kp T.b_law_expression .nil pass0 (pa_cons (pv 1) (pa_cons (pv 3) (pa_cons (pv 4) (pa_cons (pv 2) (pa_cons (pe_op op_add pe_int (pe_call (ok_law_draw T) (hr.mono (by decide)) (by rfl) T.m_law_draw T.F_law_draw.kp T.b_law_draw .nil pass0 (pa_cons (pv 1) (pa_cons pe_int pa_nil)))) pa_nil)))))))
      (pss_cons (ps_set (i := 6) sc_law.nd rfl (by first | exact Or.inl rfl | exact Or.inr rfl) (pe_call (ok_law_rows T 13) (hr.mono (by decide)) (by rfl) T.m_law_rows T.F_law_rows.kp T.b_law_rows .nil pass0 (pa_cons (pv 5) (pa_cons pe_int pa_nil))))
      (pss_cons (ps_setLc (i := 7) (own := [("row", 16)]) (g := gName 16) (tt := tYes) rfl sc_law.nd rfl rfl (sw_true rfl rfl rfl (by decide +kernel)) (pi_list (pv 6)) (blkOk_by (N := N_law) (sc := defScope s_law) (by decide +kernel)) (fun _ _ _ _ _ => (pg_name (i := 16) sc_law.nd rfl (by first | exact Or.inl rfl | exact Or.inr rfl))) (fun _ _ _ _ _ => pts_nil) (fun _ _ _ _ _ => (pe_ix (show IxR _ (rIxT K) from ix_tup) (pv 16) pe_int (fun _ _ => rfl))))
      (pss_cons (ps_if (pt_not (pt_truth (pe_call (ok_law_same T 16) (hr.mono (by decide)) (by rfl) T.m_law_same T.F_law_same.kp T.b_law_same .nil pass0 (pa_cons (pe_call (ok_expression_words T 13) (hr.mono (by decide)) (by rfl) T.m_expression_words T.F_expression_words.kp T.b_expression_words .nil pass0 (pa_cons (pv 5) pa_nil)) (pa_cons (pv 7) pa_nil))) (fun _ => rfl))) (pss_one (ps_ret pe_bl)) pss_nil)
      (pss_cons (ps_set (i := 8) sc_law.nd rfl (by first | exact Or.inl rfl | exact Or.inr rfl) (pe_slice sl_list (pe_lst (pa_cons pe_str (pa_cons pe_str pa_nil))) po_none (po_some (pe_call (ok_law_draw T) (hr.mono (by decide)) (by rfl) T.m_law_draw T.F_law_draw.kp T.b_law_draw .nil pass0 (pa_cons (pv 1) (pa_cons pe_int pa_nil))))))
      (pss_cons (ps_set (i := 9) sc_law.nd rfl (by first | exact Or.inl rfl | exact Or.inr rfl) (pe_slice sl_list (pe_lst (pa_cons pe_str (pa_cons pe_str (pa_cons pe_str (pa_cons pe_str pa_nil))))) po_none (po_some (pe_call (ok_law_draw T) (hr.mono (by decide)) (by rfl) T.m_law_draw T.F_law_draw.kp T.b_law_draw .nil pass0 (pa_cons (pv 1) (pa_cons pe_int pa_nil))))))
      (pss_cons (ps_set (i := 10) sc_law.nd rfl (by first | exact Or.inl rfl | exact Or.inr rfl) (pe_op op_add pe_int (pe_call (ok_law_draw T) (hr.mono (by decide)) (by rfl) T.m_law_draw T.F_law_draw.kp T.b_law_draw .nil pass0 (pa_cons (pv 1) (pa_cons pe_int pa_nil)))))
      (pss_cons (ps_set (i := 11) sc_law.nd rfl (by first | exact Or.inl rfl | exact Or.inr rfl) (pe_lst (pa_cons (pe_callTy call_list_of (by rfl) T.z_list (by first | exact PySem.boot_list | decide +kernel) (pa_cons (pv 4) pa_nil)) (pa_cons (pe_callTy call_list_of (by rfl) T.z_list (by first | exact PySem.boot_list | decide +kernel) (pa_cons (pv 3) pa_nil)) pa_nil))))
      (pss_cons (ps_set (i := 12) sc_law.nd rfl (by first | exact Or.inl rfl | exact Or.inr rfl) (pe_makeK T.mk_Cursor (ok_Cursor_init T) (hr.mono (by decide)) (by rfl) T.m_Cursor T.kb_Cursor_init pass0 (pa_cons (pe_op op_cat (pe_op op_cat (pv 8) (pv 7)) (pv 9)) pa_nil) (pk_cons (pe_ix ix_list (pv 11) pe_int (fun _ _ => rfl)) (pk_cons (pe_ix ix_list (pv 11) pe_int (fun _ _ => rfl)) (pk_cons (pv 2) pk_nil)))))
      (pss_cons (ps_if (pt_not (pt_truth (pe_call (ok_law_stranger T) (hr.mono (by decide)) (by rfl) T.m_law_stranger T.F_law_stranger.kp T.b_law_stranger .nil pass0 (pa_cons (pe_op op_cat (pv 3) (pv 4)) (pa_cons (pv 11) pa_nil))) (fun _ => rfl))) (pss_one (ps_ret pe_bl)) pss_nil)
      (pss_cons (ps_for PassesOwn.never rfl (pi_list (pv 8)) (pg_name (i := 13) sc_law.nd rfl (by first | exact Or.inl rfl | exact Or.inr rfl)) (pss_one (ps_expr (pe_methT (pv 12) T.cl_Cursor T.me_Cursor_take_word (ok_Cursor_take_word_x T) (hr.mono (by decide)) T.b_Cursor_take_word .nil (fun σ => passAt takes0 σ) (pa_cons (pv 13) pa_nil)))))
      (pss_cons (ps_set (i := 14) sc_law.nd rfl (by first | exact Or.inl rfl | exact Or.inr rfl) (pe_call (ok_law_read T) (hr.mono (by decide)) (by rfl) T.m_law_read T.F_law_read.kp T.b_law_read .nil pass0 (pa_cons (pv 12) (pa_cons (pv 10) pa_nil))))
      (pss_cons (ps_for PassesOwn.never rfl (pi_range1 (by rfl) T.z_range (pa_cons (pe_callB call_len_seq (by rfl) T.z_len (by first | exact PySem.boot_len | decide +kernel) (pa_cons (pv 6) pa_nil)) pa_nil)) (pg_name (i := 15) sc_law.nd rfl (by first | exact Or.inl rfl | exact Or.inr rfl)) (pss_one (ps_if (pt_cmpR op_gt (pe_ix ix_tup (pe_ix ix_list (pv 6) (pv 15) (fun _ _ => rfl)) pe_int (fun _ _ => rfl)) (pv 10) (nomark _)) (pss_one (ps_ret (pe_call (ok_law_same T 16) (hr.mono (by decide)) (by rfl) T.m_law_same T.F_law_same.kp T.b_law_same .nil pass0 (pa_cons (pv 14) (pa_cons (pe_tup (pa_cons pe_str (pa_cons (pe_op op_add (pe_callB call_len_seq (by rfl) T.z_len (by first | exact PySem.boot_len | decide +kernel) (pa_cons (pv 8) pa_nil)) (pv 15)) (pa_cons pe_bl pa_nil)))) pa_nil))))) pss_nil)))
      (pss_one (ps_ret (pe_and (pe_call (ok_law_same T 16) (hr.mono (by decide)) (by rfl) T.m_law_same T.F_law_same.kp T.b_law_same .nil pass0 (pa_cons (pv 14) (pa_cons (pe_tup (pa_cons pe_str (pa_cons (pv 5) pa_nil))) pa_nil))) (pe_one (pe_call (ok_law_same T 16) (hr.mono (by decide)) (by rfl) T.m_law_same T.F_law_same.kp T.b_law_same .nil pass0 (pa_cons (pe_fld (pv 12) rfl) (pa_cons (pe_op op_add (pe_callB call_len_seq (by rfl) T.z_len (by first | exact PySem.boot_len | decide +kernel) (pa_cons (pv 8) pa_nil)) (pe_callB call_len_seq (by rfl) T.z_len (by first | exact PySem.boot_len | decide +kernel) (pa_cons (pv 7) pa_nil))) pa_nil))))))))))))))))))))))))), ?_⟩
  refine ⟨_, rfl, s0, ns0, 40, rfl, hS, fun p c H1 s1 np nc P1 => ?_⟩
  refine ⟨_, rfl, p, c, 3, 40, rfl, by decide, by decide, P1, fun g H2 g0 g1 b2 P2 => ⟨rfl, ?_⟩⟩
  refine ⟨_, rfl, p, c, 3, 40, rfl, by decide, by decide, P2, fun pn ns H3 b3 P3 fn e3 l3 n3 d3 => ?_⟩
  have npn := P2.ne fn
  refine ⟨by show 0 ≤ sizeLine; decide, fun W hW => ?_⟩
  have nW := P3.ne hW
  have P4 := P3.same (same_upd (o := .lst []) hW)
  have e4 := same_upd (o := .lst []) hW _ _ e3
  generalize (decide (V.int g = V.int 1)) = br
  refine ⟨fun σ' H' => ∃ (pp : Addr) (ps : List Str), σ' = [some (.ref s0), some (.ref p), some (.bl br), some (.ref pn), some (.ref pp), none, none, none, none, none, none, none, none, none, none, none, none] ∧ Pool H' p c 40 ∧ H' pn = some (.lst (ns.map V.str)) ∧ H' pp = some (.lst (ps.map V.str)) ∧ pp ≠ p ∧ ps.length ≤ 3 ∧ (∀ x ∈ ps, Nm x), ?_, ?_⟩
  · refine ⟨_, rfl, _, rfl, ite2 (fun cb => ?_) (fun cb => ?_)⟩
    · exact ⟨_, rfl, p, c, 3, 40, rfl, by decide, by decide, P4, fun pp ps H6 b6 P6 fp ep lp hp dp => ⟨pp, ps, rfl, P6, b6 _ _ npn e4, ep, P4.ne fp, by omega, hp⟩⟩
    · refine ⟨_, rfl, p, c, 2, 40, rfl, by decide, by decide, P4, fun j H5 j0 j1 b5 P5 => ⟨rfl, _, rfl, ite2 (fun _ => ?_) (fun _ => ?_)⟩⟩
      · exact ⟨_, rfl, p, c, 3, 40, rfl, by decide, by decide, P5, fun pp ps H6 b6 P6 fp ep lp hp dp => ⟨pp, ps, rfl, P6, b6 _ _ npn (b5 _ _ npn e4), ep, P5.ne fp, by omega, hp⟩⟩
      · exact ⟨W, [], rfl, P5, b5 _ _ npn e4, b5 _ _ nW upd_same, nW, by decide, fun x m => by cases m⟩
  clear P4 e4 nW hW P3 b3 e3 P2 fn b2 P1 np nc s1 hS
  rintro σ5 H5 ⟨pp, ps, rfl, P5, e5, ep5, npp, lp, hps⟩
  refine ⟨_, rfl, _, rfl, _, rfl, _, rfl, _, rfl, p, c, 12, 40, rfl, by decide, by decide, P5, fun d H6 d0 d1 b6 P6 => ⟨_, _, rfl, rfl, p, c, pn, pp, ns, ps, br, 1 + d, 40, rfl, by omega, by omega, P6, npn, npp, b6 _ _ npn e5, b6 _ _ npp ep5, by omega, by omega, fun v e H7 bb ev ed ew es b7 P7 => ?_⟩⟩
  have d12 : e.deep ≤ 12 := by omega
  have e7 := (b6.trans b7) _ _ npn e5
  have ep7 := (b6.trans b7) _ _ npp ep5
  clear P5 P6 e5 ep5 b6 b7
  refine ⟨_, rfl, v, e, 1, ns, ps, rfl, by omega, by decide, ev, ew, fun pr us H8 s8 fr e8 r8 => ?_⟩
  have wl := words_le d12
  have rl := rows_len e 1
  have ul := paired_len r8
  refine ⟨_, rfl, pr, rfl, ⟨_, SqL.of e8⟩, fun D hD => ?_⟩
  refine lc_list (a := pr) (xs := us) (fun i H' => Same H8 H' ∧ H' D = some (.lst ((e.words.take i).map V.str))) ⟨same_upd hD, upd_same⟩ (fun i H' _ h => h.1.seq (SqL.of e8)) (fun i x H' hx h => ?_) (fun H9 h => ?_)
  · obtain ⟨q0, hq, a, rfl, ha⟩ := pgetC r8 hx
    have wi : e.words[i]? = some q0.1 := by rw [← rows_words e 1, List.getElem?_map, hq]; rfl
    refine ⟨rfl, ?_⟩
    refine ⟨_, rfl, a, _, 0, .str q0.1, rfl, rfl, SqT.of (h.1 _ _ ha), atI_nat (j := 0) rfl, ?_⟩
    refine ⟨_, h.2, ?_, same_at h.1 hD, ?_⟩
    · rw [List.length_map, List.length_take, sizeLine_eq]
      omega
    · rw [upd_same, List.take_add_one, wi, List.map_append]
      rfl
  obtain ⟨s9, eD⟩ := h
  rw [ul, rl, List.take_length] at eD
  have s79 := s8.trans s9
  have P9 := P7.same s79
  have e9 := s79 _ _ e7
  have ep9 := s79 _ _ ep7
  have er9 := s9 _ _ e8
  have r9 := L2.Paired.mapP r8 fun _ _ y => RowV.keep (keepT_of s9) y
  have ev9 := ev.keep (keepT_of s79)
  have npr : pr ≠ p := P7.ne fr
  have nD : D ≠ p := (P7.same s8).ne hD
  have M9 : M13 H9 p pn pp pr D ns ps us v e := ⟨e9, ep9, er9, eD, r9, ev9⟩
  clear r8 e8 s8 s9 s79 ep7 e7 P7 fr hD ev e9 ep9 er9 r9 ev9
  have wok := words_ok n3 hps e ew
  have lay := strs_lay' (fun x m => (wok x m).1) (by omega)
  refine ⟨_, rfl, v, e, ns, ps, rfl, by omega, by decide, M9.ev, ew, fun pw H10 s10 fw ew10 => ?_⟩
  refine ⟨_, rfl, .ref pw, .ref D, .list (e.words.map PyData.str), rfl, Da.strs ew10, Da.strs (s10 _ _ eD), Nat.lt_of_le_of_lt lay.2.1 (by decide), lay.2.2, true, rfl, iteF ?_⟩
  have P10 := P9.same s10
  have M10 := M9.same s10
  clear s10 fw ew10 M9 P9 eD
  -- before and behind
  refine ⟨by show 2 ≤ sizeLine; decide, fun L1 fL1 => ?_⟩
  have sL1 := same_upd (o := .lst ((["pay", "7"] : List Str).map V.str)) fL1
  refine ⟨_, rfl, p, c, 3, bb, rfl, by decide, by decide, P10.same sL1, fun t1 H11 t10 t11 b11 P11 => ?_⟩
  have nL1 := P10.ne fL1
  have M11 := (M10.same sL1).but b11 ((P10.same sL1).keepT b11) npn npp npr nD
  refine ⟨_, rfl, L1, _, rfl, SqL.of (b11 _ _ nL1 upd_same), fun B fB => ?_⟩
  obtain ⟨bs, ebs, lbs, mbs⟩ := cut_strs ["pay", "7"] none (some t1)
  have ebs' : cutV [V.str "pay", V.str "7"] none (some t1) = bs.map V.str := ebs
  rw [ebs']
  have sB := same_upd (o := .lst (bs.map V.str)) fB
  have nB := P11.ne fB
  have P12 := P11.same sB
  have M12 := M11.same sB
  have eB : upd H11 B (.lst (bs.map V.str)) B = some (.lst (bs.map V.str)) := upd_same
  revert P12 M12 eB
  generalize upd H11 B (.lst (bs.map V.str)) = H12
  intro P12 M12 eB
  clear M11 P11 sB fB M10 P10 b11 sL1 nL1 fL1 ebs ebs'
  refine ⟨by show 4 ≤ sizeLine; decide, fun L2 fL2 => ?_⟩
  have sL2 := same_upd (o := .lst ((["5", "end", "+", "?"] : List Str).map V.str)) fL2
  refine ⟨_, rfl, p, c, 5, bb, rfl, by decide, by decide, P12.same sL2, fun t2 H13 t20 t21 b13 P13 => ?_⟩
  have nL2 := P12.ne fL2
  have M13' := (M12.same sL2).but b13 ((P12.same sL2).keepT b13) npn npp npr nD
  have eB13 := b13 _ _ nB (sL2 _ _ eB)
  refine ⟨_, rfl, L2, _, rfl, SqL.of (b13 _ _ nL2 upd_same), fun G fG => ?_⟩
  obtain ⟨hs, ehs, lhs, mhs⟩ := cut_strs ["5", "end", "+", "?"] none (some t2)
  have ehs' : cutV [V.str "5", V.str "end", V.str "+", V.str "?"] none (some t2) = hs.map V.str := ehs
  rw [ehs']
  have sG := same_upd (o := .lst (hs.map V.str)) fG
  have nG := P13.ne fG
  refine ⟨_, rfl, p, c, 12, bb, rfl, by decide, by decide, P13.same sG, fun t3 H14 t30 t31 b14 P14 => ⟨_, _, rfl, rfl, ?_⟩⟩
  have M14 := (M13'.same sG).but b14 ((P13.same sG).keepT b14) npn npp npr nD
  have eB14 := b14 _ _ nB (sG _ _ eB13)
  have eG14 : H14 G = some (.lst (hs.map V.str)) := b14 _ _ nG upd_same
  clear M13' eB13 sG b14 P13 fG P14 M12 sL2 b13 eB P12 fL2 nL2 ehs ehs'
  obtain ⟨tn, rfl⟩ := Int.eq_ofNat_of_zero_le t30
  -- the cursor
  refine ⟨_, rfl, pp, _, rfl, .inl (SqL.of M14.o), fun o1 f1 => ?_⟩
  have so1 := same_upd (o := .lst (ps.map V.str)) f1
  refine ⟨_, rfl, pn, _, rfl, .inl (SqL.of (so1 _ _ M14.n)), fun o2 f2 => ?_⟩
  have so2 := same_upd (o := .lst (ns.map V.str)) f2
  refine ⟨by show 2 ≤ sizeLine; decide, fun pq fq => ?_⟩
  have sq := same_upd (o := .lst [V.ref o1, .ref o2]) fq
  have s17 := (so1.trans so2).trans sq
  have M17 := M14.same s17
  have eB17 := s17 _ _ eB14
  have eG17 := s17 _ _ eG14
  have eo1 := sq _ _ (so2 _ _ (upd_same (H := H14) (a := o1) (o := .lst (ps.map V.str))))
  have eo2 := sq _ _ (upd_same (H := upd H14 o1 (.lst (ps.map V.str))) (a := o2) (o := .lst (ns.map V.str)))
  have epq := upd_same (H := upd (upd H14 o1 (.lst (ps.map V.str))) o2 (.lst (ns.map V.str))) (a := pq) (o := .lst [V.ref o1, .ref o2])
  have no12 : o1 ≠ o2 := ne_of_none (upd_same (H := H14) (a := o1) (o := .lst (ps.map V.str))) f2
  have nq1 : pn ≠ o1 ∧ pp ≠ o1 ∧ pr ≠ o1 ∧ D ≠ o1 := ⟨ne_of_none M14.n f1, ne_of_none M14.o f1, ne_of_none M14.r f1, ne_of_none M14.d f1⟩
  have nq2 : pn ≠ o2 ∧ pp ≠ o2 ∧ pr ≠ o2 ∧ D ≠ o2 := ⟨ne_of_none (so1 _ _ M14.n) f2, ne_of_none (so1 _ _ M14.o) f2, ne_of_none (so1 _ _ M14.r) f2, ne_of_none (so1 _ _ M14.d) f2⟩
  have nB1 := ne_of_none eB14 f1
  have nB2 := ne_of_none (so1 _ _ eB14) f2
  revert M17 eB17 eG17 eo1 eo2 epq
  generalize upd (upd (upd H14 o1 (.lst (ps.map V.str))) o2 (.lst (ns.map V.str))) pq (.lst [V.ref o1, .ref o2]) = H17
  intro M17 eB17 eG17 eo1 eo2 epq
  clear M14 eB14 eG14 s17 sq so2 so1 f1 f2 fq
  refine ⟨_, rfl, _, rfl, B, D, _, _, rfl, rfl, eB17, M17.d, ?_, fun X fX => ?_⟩
  · rw [List.length_map, List.length_map, sizeLine_eq]
    have : bs.length ≤ 2 := lbs
    omega
  have sX := same_upd (o := .lst (bs.map V.str ++ e.words.map V.str)) fX
  refine ⟨_, rfl, X, G, _, _, rfl, rfl, upd_same, sX _ _ eG17, ?_, fun Y fY => ?_⟩
  · rw [List.length_append, List.length_map, List.length_map, List.length_map, sizeLine_eq]
    have : bs.length ≤ 2 := lbs
    have : hs.length ≤ 4 := lhs
    omega
  have sY := same_upd (o := .lst (bs.map V.str ++ e.words.map V.str ++ hs.map V.str)) fY
  have sXY := sX.trans sY
  refine ⟨_, rfl, pq, _, 0, .ref o1, rfl, rfl, SqL.of (sXY _ _ epq), atI_nat (j := 0) rfl, _, rfl, pq, _, 1, .ref o2, rfl, rfl, SqL.of (sXY _ _ epq), atI_nat (j := 1) rfl, _, rfl, rfl, rfl, ?_⟩
  refine make_cur T (a := Y) (ws := bs ++ e.words ++ hs) (by rw [upd_same, List.map_append, List.map_append]) (sXY _ _ eo1) (sXY _ _ eo2) fun x0 w0 y0 u0 H20 s20 g1 g2 g3 g4 C0 => ?_
  have s17 := sXY.trans s20
  have M20 := M17.same s17
  have eB20 := s17 _ _ eB17
  have eo1' := s17 _ _ eo1
  have eo2' := s17 _ _ eo2
  have epq' := s17 _ _ epq
  have nX : ∀ {z : Addr} {o : HO}, H17 z = some o → x0 ≠ z ∧ w0 ≠ z ∧ y0 ≠ z ∧ u0 ≠ z := fun h => ⟨(ne_of_none (sXY _ _ h) g1).symm, (ne_of_none (sXY _ _ h) g2).symm, (ne_of_none (sXY _ _ h) g3).symm, (ne_of_none (sXY _ _ h) g4).symm⟩
  have x1 := nX eo1
  have x2 := nX eo2
  have xM : pn ≠ x0 ∧ pp ≠ x0 ∧ pr ≠ x0 ∧ D ≠ x0 := ⟨(nX M17.n).1.symm, (nX M17.o).1.symm, (nX M17.r).1.symm, (nX M17.d).1.symm⟩
  have xB := (nX eB17).1.symm
  clear s17 sXY s20 sX sY g1 g2 g3 g4 nX M17 eB17 eo1 eo2 epq fX fY eG17
  refine ⟨_, rfl, _, rfl, pn, pp, _, _, rfl, rfl, M20.n, M20.o, ?_, fun K1 fK => ?_⟩
  · rw [List.length_map, List.length_map]
    exact small_le (by omega)
  have sK := same_upd (o := .lst (ns.map V.str ++ ps.map V.str)) fK
  refine ⟨_, rfl, K1, pq, o1, o2, ns ++ ps, ps, ns, rfl, by rw [upd_same, List.map_append], sK _ _ epq', sK _ _ eo1', sK _ _ eo2', no12, (ne_of_none eo1' fK).symm, (ne_of_none eo2' fK).symm, by rw [List.length_append]; omega, by omega, by omega, fun x m => List.mem_append_right _ m, fun x m => List.mem_append_left _ m, fun x m => (List.mem_append.mp m).elim (n3 x) (hps x), fun H22 k22 => ?_⟩
  refine ⟨true, rfl, iteF ?_⟩
  have M22 := (M20.same sK).keep2 k22 (sK _ _ eo1') (sK _ _ eo2') nq1 nq2
  have eB22 := k22 _ _ nB1 nB2 (sK _ _ eB20)
  have C22 : CuX T.C_Cursor H22 ⟨x0, w0, y0, u0, ps, ns, bs ++ e.words ++ hs, br⟩ 0 := CuX.keep2 (C0.same sK) k22 x1 x2
  clear k22 sK fK M20 eB20 eo1' eo2' epq' C0 x1 x2 nq1 nq2 nB1 nB2 no12
  have lb : bs.length ≤ 2 := lbs
  have lh : hs.length ≤ 4 := lhs
  have wl2 : (bs ++ e.words ++ hs).length < 90000 := by
    rw [List.length_append, List.length_append]
    omega
  have WW2 : Wds (bs ++ e.words ++ hs) := fun x m => by
    rcases List.mem_append.mp m with m | m
    · rcases List.mem_append.mp m with m | m
      · exact asc_of (n := 100) (ss := ["pay", "7"]) (by decide +kernel) (mbs x m)
      · exact wok x m
    · exact asc_of (n := 100) (ss := ["5", "end", "+", "?"]) (by decide +kernel) (mhs x m)
  -- the words before
  refine ⟨_, rfl, B, rfl, ⟨_, SqL.of eB22⟩, for_list (K := K) (a := B) (xs := bs.map V.str) (fun i σ' H' => ∃ y : Option V, σ' = [some (.ref s0), some (.ref p), some (.bl br), some (.ref pn), some (.ref pp), some v, some (.ref pr), some (.ref D), some (.ref B), some (.ref G), some (.int (1 + (tn : Int))), some (.ref pq), some (.ref x0), y, none, none, none] ∧ But x0 H22 H' ∧ CuX T.C_Cursor H' ⟨x0, w0, y0, u0, ps, ns, bs ++ e.words ++ hs, br⟩ i) ⟨_, rfl, But.refl _ _, C22⟩ ?_ ?_ ?_⟩
  · rintro i σ' H' _ ⟨y, rfl, b, _⟩
    exact SqL.of (b _ _ xB eB22)
  · rintro i z σ' H' hi ⟨y, rfl, b, C⟩
    obtain ⟨x, hx, rfl⟩ := str_of_map hi
    obtain ⟨hle, ⟨dx, ha⟩, _⟩ := id C
    have ex : (bs ++ e.words ++ hs)[i]? = some x := by
      have : i < bs.length := (List.getElem?_eq_some_iff.mp hx).1
      rw [List.append_assoc, List.getElem?_append_left this]
      exact hx
    refine ⟨_, rfl, x0, dx, _, rfl, ha, cg_no cu_meths.2.1, _, rfl, ⟨x0, w0, y0, u0, ps, ns, bs ++ e.words ++ hs, br⟩, i, x, rfl, C, (by have : i < bs.length := (List.getElem?_eq_some_iff.mp hx).1; omega), fun x' v' e' f H23 b23 C23 => ⟨_, rfl, b.trans b23, C23⟩, fun no => absurd ⟨rfl, rfl⟩ (no x .non ex)⟩
  rintro σ24 H24 ⟨y, rfl, b24, C24⟩
  rw [List.length_map] at C24
  have kT := CuX.keepT C22 b24
  have M24 := M22.but b24 kT xM.1 xM.2.1 xM.2.2.1 xM.2.2.2
  have eB24 := b24 _ _ xB eB22
  clear M22 eB22 C22 b24 kT
  have sub : SubAt (bs ++ e.words ++ hs) bs.length ((e.rows 1).map (·.1)) := by
    rw [rows_words]
    exact SubAt.mid bs e.words hs
  have rr : readM ⟨x0, w0, y0, u0, ps, ns, bs ++ e.words ++ hs, br⟩ (1 + tn) bs.length = fin e bs.length (e.rows 1).length (fbad (1 + tn) (e.rows 1)) := read_rows (c := ⟨x0, w0, y0, u0, ps, ns, bs ++ e.words ++ hs, br⟩) n3 e (1 + tn) 1 bs.length (1 + tn) ew es (by omega) (by omega) sub
  refine ⟨_, rfl, _, rfl, ⟨x0, w0, y0, u0, ps, ns, bs ++ e.words ++ hs, br⟩, bs.length, 1 + tn, rfl, by omega, by omega, C24, WW2, wl2, ?_⟩
  rw [rr]
  have dok := data_ok e
  cases fb : fbad (1 + tn) (e.rows 1) with
  | none =>
    refine fun p30 v30 H30 b30 e30 ev30 C30 => ?_
    have kT := CuX.keepT C24 b30
    have M30 := M24.but b30 kT xM.1 xM.2.1 xM.2.2.1 xM.2.2.2
    have eB30 := b30 _ _ xB eB24
    refine ⟨_, rfl, pr, _, rfl, .inl (SqL.of M30.r), _, rfl, by omega, by omega, for_range (fun i σ' H' => ∃ y z : Option V, σ' = [some (.ref s0), some (.ref p), some (.bl br), some (.ref pn), some (.ref pp), some v, some (.ref pr), some (.ref D), some (.ref B), some (.ref G), some (.int (1 + (tn : Int))), some (.ref pq), some (.ref x0), y, some (.ref p30), z, none] ∧ H' = H30) ⟨_, _, rfl, rfl⟩ ?_ ?_⟩
    · rintro i σ' H' hi ⟨y, z, rfl, rfl⟩
      obtain ⟨x, gx⟩ : ∃ x, us[i]? = some x := ⟨_, List.getElem?_eq_getElem hi⟩
      obtain ⟨q0, hq, a, rfl, ha⟩ := pgetC M30.rv gx
      have lq := fbad_none fb i q0 hq
      refine ⟨_, rfl, _, rfl, pr, us, _, _, rfl, rfl, SqL.of M30.r, at_of (Int.zero_add _) gx, a, _, 1, .int ((q0.2 : Nat) : Int), rfl, rfl, SqT.of ha, atI_nat (j := 1) rfl, _, rfl, _, _, rfl, rfl, _, rfl, ite2 (fun cc => ?_) (fun _ => ⟨_, _, rfl, rfl⟩)⟩
      have : (1 : Int) + (tn : Int) < ((q0.2 : Nat) : Int) := of_decide_eq_true cc
      omega
    · rintro σ' H' ⟨y, z, rfl, rfl⟩
      obtain ⟨hle, ⟨dx, ha⟩, _⟩ := id C30
      refine ⟨_, rfl, _, rfl, by show 2 ≤ sizeLine; decide, fun U fU => ?_⟩
      have sU := same_upd (o := .tup [V.str "read", v]) fU
      refine ⟨_, _, .tuple [.str "read", e.data], rfl, pair_da (sU _ _ e30) (ev30.keep (keepT_of sU)).da, pair_da upd_same (M30.ev.keep (keepT_of sU)).da, ?_, ?_, _, rfl, iteT ?_⟩
      · simp only [PyData.depth, PyData.depthAll]
        omega
      · simp [wide, wideAll, dok.2]
      refine ⟨_, rfl, x0, T.C_Cursor, dx, _, _, rfl, sU _ _ ha, T.cl_Cursor, T.n_Cursor_at, lk_ix cgNd 4 rfl, _, rfl, B, _, rfl, .inl (SqL.of (sU _ _ eB30)), _, rfl, D, _, rfl, .inl (SqL.of (sU _ _ M30.d)), _, _, rfl, rfl, ?_⟩
      have en : ((((bs.map V.str).length : Nat) : Int) + (((e.words.map V.str).length : Nat) : Int)) = ((bs.length + (e.rows 1).length : Nat) : Int) := by rw [List.length_map, List.length_map, rl]; omega
      refine ⟨_, _, .int ((bs.length + (e.rows 1).length : Nat) : Int), rfl, .int _, ?_, by simp [PyData.depth], by simp [wide], q _⟩
      show Da _ (.int ((((bs.map V.str).length : Nat) : Int) + (((e.words.map V.str).length : Nat) : Int))) _
      rw [en]
      exact .int _
  | some j =>
    obtain ⟨⟨qj, hqj, lj⟩, before⟩ := fbad_some fb
    refine fun p30 H30 b30 e30 => ?_
    have kT := CuX.keepT C24 b30
    have M30 := M24.but b30 kT xM.1 xM.2.1 xM.2.2.1 xM.2.2.2
    have eB30 := b30 _ _ xB eB24
    refine ⟨_, rfl, pr, _, rfl, .inl (SqL.of M30.r), _, rfl, by omega, by omega, for_range (fun i σ' H' => ∃ y z : Option V, σ' = [some (.ref s0), some (.ref p), some (.bl br), some (.ref pn), some (.ref pp), some v, some (.ref pr), some (.ref D), some (.ref B), some (.ref G), some (.int (1 + (tn : Int))), some (.ref pq), some (.ref x0), y, some (.ref p30), z, none] ∧ H' = H30 ∧ i ≤ j) ⟨_, _, rfl, rfl, Nat.zero_le _⟩ ?_ ?_⟩
    · rintro i σ' H' hi ⟨y, z, rfl, rfl, ij⟩
      obtain ⟨x, gx⟩ : ∃ x, us[i]? = some x := ⟨_, List.getElem?_eq_getElem hi⟩
      obtain ⟨q0, hq, a, rfl, ha⟩ := pgetC M30.rv gx
      refine ⟨_, rfl, _, rfl, pr, us, _, _, rfl, rfl, SqL.of M30.r, at_of (Int.zero_add _) gx, a, _, 1, .int ((q0.2 : Nat) : Int), rfl, rfl, SqT.of ha, atI_nat (j := 1) rfl, _, rfl, _, _, rfl, rfl, _, rfl, ite2 (fun cc => ?_) (fun cc => ⟨_, _, rfl, rfl, ?_⟩)⟩
      · have c2 : (1 : Int) + (tn : Int) < ((q0.2 : Nat) : Int) := of_decide_eq_true cc
        have eij : i = j := by
          by_cases z : i < j
          · have := before i q0 z hq
            omega
          · omega
        subst eij
        refine ⟨_, rfl, _, rfl, B, _, rfl, .inl (SqL.of eB30), _, rfl, _, _, rfl, rfl, by show 3 ≤ sizeLine; decide, fun U fU => ?_⟩
        have en : ((((bs.map V.str).length : Nat) : Int) + (0 + (i : Int))) = ((bs.length + i : Nat) : Int) := by rw [List.length_map]; omega
        refine ⟨_, _, .tuple [.str "refused", .int ((bs.length + i : Nat) : Int), .bool true], rfl, ref_da (same_upd fU _ _ e30), ?_, by simp [PyData.depth, PyData.depthAll], by simp [wide, wideAll], q _⟩
        have key : ∀ z : V, z = .int ((bs.length + i : Nat) : Int) → Da (upd H' U (.tup [.str "refused", z, .bl true])) (.ref U) (.tuple [.str "refused", .int ((bs.length + i : Nat) : Int), .bool true]) := fun z hz => by
          rw [hz]
          exact ref_da upd_same
        exact key _ (congrArg V.int en)
      · by_cases z : i = j
        · subst z
          rw [Option.some.inj (hq.symm.trans hqj)] at cc
          exact absurd (decide_eq_true (show (1 : Int) + (tn : Int) < ((qj.2 : Nat) : Int) by omega)) cc
        · omega
    · rintro σ' H' ⟨y, z, rfl, rfl, ij⟩
      have : j < (e.rows 1).length := (List.getElem?_eq_some_iff.mp hqj).1
      omega
end
/-! ### what the top has written -/
theorem all_mk {l : PySem.W.OpenLaw} [PrOk l.prog] {w : World} {K : PySem.W.Frag} {h : Heap} {mg : Str → Option Value} {fa : Addr} (X : K.In h) (G : h.Ns mainGlobals mg) (hfa : mg "law" = some (.ref fa))
    {C_Cursor : Addr}
    {C_GameError : Addr}
    {C_BadText fe_BadText ce_BadText de_BadText ne_BadText : Addr} {nm_BadText qn_BadText : Str} {bs_BadText sb_BadText : List Value} {sn_BadText : List Str} {ab_BadText : Bool} {cl_BadText : Option Bool} {dd_BadText oe_BadText ae_BadText ge_BadText he_BadText : Option Addr} {k0_BadText k1_BadText k2_BadText k3_BadText k5_BadText : Option Value} {oce_BadText kve_BadText dce_BadText pme_BadText cte_BadText cle_BadText cme_BadText : Value} {sle_BadText sme_BadText sne_BadText : Array (Option Value)} {vse_BadText : Array Value} {tfe_BadText : Tok}
    {tk_GREATEST_NUMBER : Tok}
    {tk_LONGEST_NUMBER : Tok}
    {A_OPERATORS : Addr} {tr_OPERATORS : Nat} {tu_OPERATORS : Array (Option Value)} {tk_OPERATORS_0 tk_OPERATORS_1 tk_OPERATORS_2 tk_OPERATORS_3 tk_OPERATORS_4 tk_OPERATORS_5 tk_OPERATORS_6 : Tok}
    {f1 : Addr} {od1 an1 : Option Addr} {sl1 : Array (Option Value)} {oc1 dc1 pm1 cd1 ct1 : Value} {Dk1 : Addr}
    {zo1_1 : Addr} {zod1_1 : Option Addr} {zon1_1 : Nat} {zol1_1 : Array (Option Value)}
    {zo1_0 : Addr} {zod1_0 : Option Addr} {zon1_0 : Nat} {zol1_0 : Array (Option Value)}
    {f2 : Addr} {od2 an2 : Option Addr} {sl2 : Array (Option Value)} {oc2 kV2 dc2 pm2 cd2 ct2 : Value}
    {f3 : Addr} {od3 an3 : Option Addr} {sl3 : Array (Option Value)} {oc3 kV3 dc3 pm3 cd3 ct3 : Value}
    {pp3 : Addr} {pr3 : List Value}
    {f4 : Addr} {od4 an4 : Option Addr} {sl4 : Array (Option Value)} {oc4 kV4 dc4 pm4 cd4 ct4 : Value}
    {f5 : Addr} {od5 an5 : Option Addr} {sl5 : Array (Option Value)} {oc5 kV5 dc5 pm5 cd5 ct5 : Value}
    {f6 : Addr} {od6 an6 : Option Addr} {sl6 : Array (Option Value)} {oc6 kV6 dc6 pm6 cd6 ct6 : Value}
    {f7 : Addr} {od7 an7 : Option Addr} {sl7 : Array (Option Value)} {oc7 kV7 dc7 pm7 cd7 ct7 : Value}
    {f8 : Addr} {od8 an8 : Option Addr} {sl8 : Array (Option Value)} {oc8 kV8 dc8 pm8 cd8 ct8 : Value}
    {f9 : Addr} {od9 an9 : Option Addr} {sl9 : Array (Option Value)} {oc9 kV9 dc9 pm9 cd9 ct9 : Value}
    {f10 : Addr} {od10 an10 : Option Addr} {sl10 : Array (Option Value)} {oc10 dc10 pm10 cd10 ct10 : Value} {Dk10 : Addr}
    {tko10_0 : Tok}
    {f11 : Addr} {od11 an11 : Option Addr} {sl11 : Array (Option Value)} {oc11 kV11 dc11 pm11 cd11 ct11 : Value}
    {f12 : Addr} {od12 an12 : Option Addr} {sl12 : Array (Option Value)} {oc12 kV12 dc12 pm12 cd12 ct12 : Value}
    {f13 : Addr} {od13 an13 : Option Addr} {sl13 : Array (Option Value)} {oc13 kV13 dc13 pm13 cd13 ct13 : Value}
    {f14 : Addr} {od14 an14 : Option Addr} {sl14 : Array (Option Value)} {oc14 kV14 dc14 pm14 cd14 ct14 : Value}
    {f15 : Addr} {od15 an15 : Option Addr} {sl15 : Array (Option Value)} {oc15 kV15 dc15 pm15 cd15 ct15 : Value}
    {f16 : Addr} {od16 an16 : Option Addr} {sl16 : Array (Option Value)} {oc16 kV16 dc16 pm16 cd16 ct16 : Value}
    {f17 : Addr} {od17 an17 : Option Addr} {sl17 : Array (Option Value)} {oc17 kV17 dc17 pm17 cd17 ct17 : Value}
    {f18 : Addr} {od18 an18 : Option Addr} {sl18 : Array (Option Value)} {oc18 kV18 dc18 pm18 cd18 ct18 : Value}
    {f19 : Addr} {od19 an19 : Option Addr} {sl19 : Array (Option Value)} {oc19 kV19 dc19 pm19 cd19 ct19 : Value}
    {f20 : Addr} {od20 an20 : Option Addr} {sl20 : Array (Option Value)} {oc20 kV20 dc20 pm20 cd20 ct20 : Value}
    {f21 : Addr} {od21 an21 : Option Addr} {sl21 : Array (Option Value)} {oc21 kV21 dc21 pm21 cd21 ct21 : Value}
    {f22 : Addr} {od22 an22 : Option Addr} {sl22 : Array (Option Value)} {oc22 kV22 dc22 pm22 cd22 ct22 : Value}
    {f23 : Addr} {od23 an23 : Option Addr} {sl23 : Array (Option Value)} {oc23 kV23 dc23 pm23 cd23 ct23 : Value}
    {f24 : Addr} {od24 an24 : Option Addr} {sl24 : Array (Option Value)} {oc24 kV24 dc24 pm24 cd24 ct24 : Value}
    {f25 : Addr} {od25 an25 : Option Addr} {sl25 : Array (Option Value)} {oc25 kV25 dc25 pm25 cd25 ct25 : Value}
    (ac_Cursor : PySem.W.nsIn K mainGlobals "Cursor" = some (some (.ref C_Cursor)))
    (pg_Cursor : PySem.W.plainGet K C_Cursor Str.empty = true)
    (hd_Cursor : PySem.W.hasDictIn K C_Cursor = true)
    (po_Cursor : PySem.W.plainOver K C_Cursor = true)
    (sa_Cursor : PySem.W.findIn K (.ref C_Cursor) "__setattr__" = some (some (.builtin "object.__setattr__")))
    (mkc_Cursor : PySem.W.makesIn K C_Cursor = true)
    (kpc_Cursor : PySem.W.keepIn K (.ref C_Cursor) = true)
    (na_Cursor__words : PySem.W.findIn K (.ref C_Cursor) "_words" = some none)
    (na_Cursor_options : PySem.W.findIn K (.ref C_Cursor) "options" = some none)
    (na_Cursor_variables : PySem.W.findIn K (.ref C_Cursor) "variables" = some none)
    (na_Cursor_sees : PySem.W.findIn K (.ref C_Cursor) "sees" = some none)
    (na_Cursor_at : PySem.W.findIn K (.ref C_Cursor) "at" = some none)
    (ac_GameError : PySem.W.nsIn K mainGlobals "GameError" = some (some (.ref C_GameError)))
    (re_GameError : PySem.W.subIn K (.ref C_GameError) (.type "BaseException") = some true)
    (ri_GameError : PySem.W.isClsIn K C_GameError = true)
    (ac_BadText : PySem.W.nsIn K mainGlobals "BadText" = some (some (.ref C_BadText)))
    (xl_BadText : K.lookup C_BadText = some (excClassObj nm_BadText qn_BadText C_BadText ne_BadText bs_BadText [.ref C_GameError, .type "ValueError", .type "Exception", .type "BaseException", .type "object"] true sn_BadText sb_BadText ab_BadText cl_BadText dd_BadText k0_BadText k1_BadText k2_BadText k3_BadText k5_BadText "ValueError.__new__"))
    (esa_BadText : PySem.W.findIn K (.ref C_BadText) "__setattr__" = some (some (.builtin "object.__setattr__")))
    (exc_BadText : PySem.W.subIn K (.ref C_BadText) (.type "BaseException") = some true)
    (ety_BadText : PySem.W.typeIn K (.ref C_BadText) = some (.type "type"))
    (ekp_BadText : PySem.W.keepIn K (.ref C_BadText) = true)
    (ega_BadText : PySem.W.findIn K (.ref C_BadText) "__getattribute__" = some (some (.builtin "BaseException.__getattribute__")))
    (egg_BadText : PySem.W.findIn K (.ref C_BadText) "__getattr__" = some none)
    (ehd_BadText : PySem.W.hasDictIn K C_BadText = true)
    (eno_BadText : PySem.W.findIn K (.ref C_BadText) "at" = some none)
    (ein_BadText : PySem.W.findIn K (.ref C_BadText) "__init__" = some (some (.ref fe_BadText)))
    (eit_BadText : PySem.W.typeIn K (.ref fe_BadText) = some (.type "function"))
    (eic_BadText : PySem.W.isClsIn K C_BadText = true)
    (ess_BadText : PySem.W.subIn K (.ref C_BadText) (.ref C_BadText) = some true)
    (elk_BadText : K.lookup fe_BadText = some ⟨oce_BadText, oe_BadText, .func (PySem.W.ksFn "__init__" "BadText.__init__" (defArgs s_BadText_init) (defBody s_BadText_init) (defScope s_BadText_init) .none kve_BadText dce_BadText pme_BadText ae_BadText (.ref ce_BadText) cte_BadText de_BadText), sle_BadText⟩)
    (ecd_BadText : PySem.W.codeIn K (.ref ce_BadText) "BadText.__init__" = true)
    (eco_BadText : K.lookup ce_BadText = some ⟨cle_BadText, ge_BadText, .fields vse_BadText, sme_BadText⟩)
    (evs_BadText : vse_BadText[2]? = some (.str "/claim/cut.py" tfe_BadText))
    (ecc_BadText : K.lookup de_BadText = some ⟨cme_BadText, he_BadText, .cell (some (.ref C_BadText)), sne_BadText⟩)
    (esu_BadText : PySem.W.ks_superIn K C_BadText C_BadText "__init__" = some (some (.builtin "ValueError.__init__")))
    (evb_BadText : PySem.W.subIn K (.ref C_BadText) (.type "ValueError") = some true)
    (emr_BadText : PySem.W.mroIn K C_BadText (.ref C_BadText) = some true)
    (eha_BadText : PySem.W.findIn K (.ref C_BadText) "__class__" = some (some (.builtin "object.__class__")))
    (ehm_BadText : PySem.W.mroIn K C_BadText (.type "object") = some true)
    (esr_GameError_BadText : PySem.W.subIn K (.ref C_BadText) (.ref C_GameError) = some true)
    (ert_GameError_BadText : PySem.W.typeIn K (.ref C_GameError) = some (.type "type"))
    (ehn : PySem.W.specialIn K (.builtin "object.__class__") "__get__" = some (some (.builtin "getset_descriptor.__get__")))
    (eht : PySem.W.takesIn K (.builtin "object.__class__") = some true)
    (opq : PySem.W.nsIn K cStatics "thirdparty.any" = some none)
    (z_super : PySem.W.nsIn K mainGlobals "super" = some none)
    (ac_GREATEST_NUMBER : PySem.W.nsIn K mainGlobals "GREATEST_NUMBER" = some (some (.int 65535 tk_GREATEST_NUMBER)))
    (ac_LONGEST_NUMBER : PySem.W.nsIn K mainGlobals "LONGEST_NUMBER" = some (some (.int 5 tk_LONGEST_NUMBER)))
    (ac_OPERATORS : PySem.W.nsIn K mainGlobals "OPERATORS" = some (some (.ref A_OPERATORS)))
    (lk_OPERATORS : K.lookup A_OPERATORS = some ⟨.type "tuple", none, .seq #[.str "+" tk_OPERATORS_0, .str "-" tk_OPERATORS_1, .str "*" tk_OPERATORS_2, .str "/" tk_OPERATORS_3, .str "mod" tk_OPERATORS_4, .str "<" tk_OPERATORS_5, .str "=" tk_OPERATORS_6] tr_OPERATORS, tu_OPERATORS⟩)
    (a1 : PySem.W.findIn K (.ref C_Cursor) "__init__" = some (some (.ref f1)))
    (i1 : PySem.W.isFn K (.ref f1) = true)
    (l1 : K.lookup f1 = some ⟨oc1, od1, .func (PySem.W.fnOf "__init__" "Cursor.__init__" (defArgs s_Cursor_init) (defBody s_Cursor_init) (defScope s_Cursor_init) .none (.ref Dk1) dc1 pm1 an1 cd1 ct1), sl1⟩)
    (c1 : PySem.W.codeIn K cd1 "Cursor.__init__" = true)
    (k1 : PySem.W.keepIn K (.ref f1) = true)
    (nk1_2 : PySem.W.nsIn K Dk1 "sees" = some (some (.bool false)))
    (nk1_1 : PySem.W.nsIn K Dk1 "variables" = some (some (.ref zo1_1)))
    (zk1_1 : K.lookup zo1_1 = some ⟨.type "tuple", zod1_1, .seq #[] zon1_1, zol1_1⟩)
    (nk1_0 : PySem.W.nsIn K Dk1 "options" = some (some (.ref zo1_0)))
    (zk1_0 : K.lookup zo1_0 = some ⟨.type "tuple", zod1_0, .seq #[] zon1_0, zol1_0⟩)
    (a2 : PySem.W.nsIn K mainGlobals "number_of" = some (some (.ref f2)))
    (l2 : K.lookup f2 = some ⟨oc2, od2, .func (PySem.W.fnOf "number_of" "number_of" (defArgs s_number_of) (defBody s_number_of) (defScope s_number_of) .none kV2 dc2 pm2 an2 cd2 ct2), sl2⟩)
    (c2 : PySem.W.codeIn K cd2 "number_of" = true)
    (k2 : PySem.W.keepIn K (.ref f2) = true)
    (a3 : PySem.W.findIn K (.ref C_Cursor) "word" = some (some (.ref pp3)))
    (pg3 : PySem.W.specialIn K (.ref pp3) "__get__" = some (some (.builtin "property.__get__")))
    (pt3 : PySem.W.takesIn K (.ref pp3) = some true)
    (pr3_ : PySem.W.recIn K pp3 "property" = some (.ref f3 :: pr3))
    (l3 : K.lookup f3 = some ⟨oc3, od3, .func (PySem.W.fnOf "word" "Cursor.word" (defArgs s_Cursor_word) (defBody s_Cursor_word) (defScope s_Cursor_word) .none kV3 dc3 pm3 an3 cd3 ct3), sl3⟩)
    (c3 : PySem.W.codeIn K cd3 "Cursor.word" = true)
    (k3 : PySem.W.keepIn K (.ref f3) = true)
    (a4 : PySem.W.findIn K (.ref C_Cursor) "_pass_if" = some (some (.ref f4)))
    (i4 : PySem.W.isFn K (.ref f4) = true)
    (l4 : K.lookup f4 = some ⟨oc4, od4, .func (PySem.W.fnOf "_pass_if" "Cursor._pass_if" (defArgs s_Cursor_pass_if) (defBody s_Cursor_pass_if) (defScope s_Cursor_pass_if) .none kV4 dc4 pm4 an4 cd4 ct4), sl4⟩)
    (c4 : PySem.W.codeIn K cd4 "Cursor._pass_if" = true)
    (k4 : PySem.W.keepIn K (.ref f4) = true)
    (a5 : PySem.W.findIn K (.ref C_Cursor) "take_word" = some (some (.ref f5)))
    (i5 : PySem.W.isFn K (.ref f5) = true)
    (l5 : K.lookup f5 = some ⟨oc5, od5, .func (PySem.W.fnOf "take_word" "Cursor.take_word" (defArgs s_Cursor_take_word) (defBody s_Cursor_take_word) (defScope s_Cursor_take_word) .none kV5 dc5 pm5 an5 cd5 ct5), sl5⟩)
    (c5 : PySem.W.codeIn K cd5 "Cursor.take_word" = true)
    (k5 : PySem.W.keepIn K (.ref f5) = true)
    (a6 : PySem.W.findIn K (.ref C_Cursor) "take_number" = some (some (.ref f6)))
    (i6 : PySem.W.isFn K (.ref f6) = true)
    (l6 : K.lookup f6 = some ⟨oc6, od6, .func (PySem.W.fnOf "take_number" "Cursor.take_number" (defArgs s_Cursor_take_number) (defBody s_Cursor_take_number) (defScope s_Cursor_take_number) .none kV6 dc6 pm6 an6 cd6 ct6), sl6⟩)
    (c6 : PySem.W.codeIn K cd6 "Cursor.take_number" = true)
    (k6 : PySem.W.keepIn K (.ref f6) = true)
    (a7 : PySem.W.findIn K (.ref C_Cursor) "take_name" = some (some (.ref f7)))
    (i7 : PySem.W.isFn K (.ref f7) = true)
    (l7 : K.lookup f7 = some ⟨oc7, od7, .func (PySem.W.fnOf "take_name" "Cursor.take_name" (defArgs s_Cursor_take_name) (defBody s_Cursor_take_name) (defScope s_Cursor_take_name) .none kV7 dc7 pm7 an7 cd7 ct7), sl7⟩)
    (c7 : PySem.W.codeIn K cd7 "Cursor.take_name" = true)
    (k7 : PySem.W.keepIn K (.ref f7) = true)
    (a8 : PySem.W.nsIn K mainGlobals "_openings" = some (some (.ref f8)))
    (l8 : K.lookup f8 = some ⟨oc8, od8, .func (PySem.W.fnOf "_openings" "_openings" (defArgs s_openings) (defBody s_openings) (defScope s_openings) .none kV8 dc8 pm8 an8 cd8 ct8), sl8⟩)
    (c8 : PySem.W.codeIn K cd8 "_openings" = true)
    (k8 : PySem.W.keepIn K (.ref f8) = true)
    (a9 : PySem.W.nsIn K mainGlobals "_read_parts" = some (some (.ref f9)))
    (l9 : K.lookup f9 = some ⟨oc9, od9, .func (PySem.W.fnOf "_read_parts" "_read_parts" (defArgs s_read_parts) (defBody s_read_parts) (defScope s_read_parts) .none kV9 dc9 pm9 an9 cd9 ct9), sl9⟩)
    (c9 : PySem.W.codeIn K cd9 "_read_parts" = true)
    (k9 : PySem.W.keepIn K (.ref f9) = true)
    (a10 : PySem.W.nsIn K mainGlobals "read_expression" = some (some (.ref f10)))
    (l10 : K.lookup f10 = some ⟨oc10, od10, .func (PySem.W.fnOf "read_expression" "read_expression" (defArgs s_read_expression) (defBody s_read_expression) (defScope s_read_expression) .none (.ref Dk10) dc10 pm10 an10 cd10 ct10), sl10⟩)
    (c10 : PySem.W.codeIn K cd10 "read_expression" = true)
    (k10 : PySem.W.keepIn K (.ref f10) = true)
    (nk10_0 : PySem.W.nsIn K Dk10 "room" = some (some (.int 12 tko10_0)))
    (a11 : PySem.W.nsIn K mainGlobals "expression_words" = some (some (.ref f11)))
    (l11 : K.lookup f11 = some ⟨oc11, od11, .func (PySem.W.fnOf "expression_words" "expression_words" (defArgs s_expression_words) (defBody s_expression_words) (defScope s_expression_words) .none kV11 dc11 pm11 an11 cd11 ct11), sl11⟩)
    (c11 : PySem.W.codeIn K cd11 "expression_words" = true)
    (k11 : PySem.W.keepIn K (.ref f11) = true)
    (a12 : PySem.W.nsIn K mainGlobals "_law_pool" = some (some (.ref f12)))
    (l12 : K.lookup f12 = some ⟨oc12, od12, .func (PySem.W.fnOf "_law_pool" "_law_pool" (defArgs s_law_pool) (defBody s_law_pool) (defScope s_law_pool) .none kV12 dc12 pm12 an12 cd12 ct12), sl12⟩)
    (c12 : PySem.W.codeIn K cd12 "_law_pool" = true)
    (k12 : PySem.W.keepIn K (.ref f12) = true)
    (a13 : PySem.W.nsIn K mainGlobals "_law_draw" = some (some (.ref f13)))
    (l13 : K.lookup f13 = some ⟨oc13, od13, .func (PySem.W.fnOf "_law_draw" "_law_draw" (defArgs s_law_draw) (defBody s_law_draw) (defScope s_law_draw) .none kV13 dc13 pm13 an13 cd13 ct13), sl13⟩)
    (c13 : PySem.W.codeIn K cd13 "_law_draw" = true)
    (k13 : PySem.W.keepIn K (.ref f13) = true)
    (a14 : PySem.W.nsIn K mainGlobals "_law_spend" = some (some (.ref f14)))
    (l14 : K.lookup f14 = some ⟨oc14, od14, .func (PySem.W.fnOf "_law_spend" "_law_spend" (defArgs s_law_spend) (defBody s_law_spend) (defScope s_law_spend) .none kV14 dc14 pm14 an14 cd14 ct14), sl14⟩)
    (c14 : PySem.W.codeIn K cd14 "_law_spend" = true)
    (k14 : PySem.W.keepIn K (.ref f14) = true)
    (a15 : PySem.W.nsIn K mainGlobals "_law_few" = some (some (.ref f15)))
    (l15 : K.lookup f15 = some ⟨oc15, od15, .func (PySem.W.fnOf "_law_few" "_law_few" (defArgs s_law_few) (defBody s_law_few) (defScope s_law_few) .none kV15 dc15 pm15 an15 cd15 ct15), sl15⟩)
    (c15 : PySem.W.codeIn K cd15 "_law_few" = true)
    (k15 : PySem.W.keepIn K (.ref f15) = true)
    (a16 : PySem.W.nsIn K mainGlobals "_law_number" = some (some (.ref f16)))
    (l16 : K.lookup f16 = some ⟨oc16, od16, .func (PySem.W.fnOf "_law_number" "_law_number" (defArgs s_law_number) (defBody s_law_number) (defScope s_law_number) .none kV16 dc16 pm16 an16 cd16 ct16), sl16⟩)
    (c16 : PySem.W.codeIn K cd16 "_law_number" = true)
    (k16 : PySem.W.keepIn K (.ref f16) = true)
    (a17 : PySem.W.nsIn K mainGlobals "_law_same" = some (some (.ref f17)))
    (l17 : K.lookup f17 = some ⟨oc17, od17, .func (PySem.W.fnOf "_law_same" "_law_same" (defArgs s_law_same) (defBody s_law_same) (defScope s_law_same) .none kV17 dc17 pm17 an17 cd17 ct17), sl17⟩)
    (c17 : PySem.W.codeIn K cd17 "_law_same" = true)
    (k17 : PySem.W.keepIn K (.ref f17) = true)
    (a18 : PySem.W.nsIn K mainGlobals "_law_keys" = some (some (.ref f18)))
    (l18 : K.lookup f18 = some ⟨oc18, od18, .func (PySem.W.fnOf "_law_keys" "_law_keys" (defArgs s_law_keys) (defBody s_law_keys) (defScope s_law_keys) .none kV18 dc18 pm18 an18 cd18 ct18), sl18⟩)
    (c18 : PySem.W.codeIn K cd18 "_law_keys" = true)
    (k18 : PySem.W.keepIn K (.ref f18) = true)
    (a19 : PySem.W.nsIn K mainGlobals "_law_name" = some (some (.ref f19)))
    (l19 : K.lookup f19 = some ⟨oc19, od19, .func (PySem.W.fnOf "_law_name" "_law_name" (defArgs s_law_name) (defBody s_law_name) (defScope s_law_name) .none kV19 dc19 pm19 an19 cd19 ct19), sl19⟩)
    (c19 : PySem.W.codeIn K cd19 "_law_name" = true)
    (k19 : PySem.W.keepIn K (.ref f19) = true)
    (a20 : PySem.W.nsIn K mainGlobals "_law_names" = some (some (.ref f20)))
    (l20 : K.lookup f20 = some ⟨oc20, od20, .func (PySem.W.fnOf "_law_names" "_law_names" (defArgs s_law_names) (defBody s_law_names) (defScope s_law_names) .none kV20 dc20 pm20 an20 cd20 ct20), sl20⟩)
    (c20 : PySem.W.codeIn K cd20 "_law_names" = true)
    (k20 : PySem.W.keepIn K (.ref f20) = true)
    (a21 : PySem.W.nsIn K mainGlobals "_law_expression" = some (some (.ref f21)))
    (l21 : K.lookup f21 = some ⟨oc21, od21, .func (PySem.W.fnOf "_law_expression" "_law_expression" (defArgs s_law_expression) (defBody s_law_expression) (defScope s_law_expression) .none kV21 dc21 pm21 an21 cd21 ct21), sl21⟩)
    (c21 : PySem.W.codeIn K cd21 "_law_expression" = true)
    (k21 : PySem.W.keepIn K (.ref f21) = true)
    (a22 : PySem.W.nsIn K mainGlobals "_law_rows" = some (some (.ref f22)))
    (l22 : K.lookup f22 = some ⟨oc22, od22, .func (PySem.W.fnOf "_law_rows" "_law_rows" (defArgs s_law_rows) (defBody s_law_rows) (defScope s_law_rows) .none kV22 dc22 pm22 an22 cd22 ct22), sl22⟩)
    (c22 : PySem.W.codeIn K cd22 "_law_rows" = true)
    (k22 : PySem.W.keepIn K (.ref f22) = true)
    (a23 : PySem.W.nsIn K mainGlobals "_law_read" = some (some (.ref f23)))
    (l23 : K.lookup f23 = some ⟨oc23, od23, .func (PySem.W.fnOf "_law_read" "_law_read" (defArgs s_law_read) (defBody s_law_read) (defScope s_law_read) .none kV23 dc23 pm23 an23 cd23 ct23), sl23⟩)
    (c23 : PySem.W.codeIn K cd23 "_law_read" = true)
    (k23 : PySem.W.keepIn K (.ref f23) = true)
    (a24 : PySem.W.nsIn K mainGlobals "_law_stranger" = some (some (.ref f24)))
    (l24 : K.lookup f24 = some ⟨oc24, od24, .func (PySem.W.fnOf "_law_stranger" "_law_stranger" (defArgs s_law_stranger) (defBody s_law_stranger) (defScope s_law_stranger) .none kV24 dc24 pm24 an24 cd24 ct24), sl24⟩)
    (c24 : PySem.W.codeIn K cd24 "_law_stranger" = true)
    (k24 : PySem.W.keepIn K (.ref f24) = true)
    (a25 : PySem.W.nsIn K mainGlobals "law" = some (some (.ref f25)))
    (l25 : K.lookup f25 = some ⟨oc25, od25, .func (PySem.W.fnOf "law" "law" (defArgs s_law) (defBody s_law) (defScope s_law) .none kV25 dc25 pm25 an25 cd25 ct25), sl25⟩)
    (c25 : PySem.W.codeIn K cd25 "law" = true)
    (k25 : PySem.W.keepIn K (.ref f25) = true)
    (z_bool : PySem.W.nsIn K mainGlobals "bool" = some none)
    (z_int : PySem.W.nsIn K mainGlobals "int" = some none)
    (z_isinstance : PySem.W.nsIn K mainGlobals "isinstance" = some none)
    (z_len : PySem.W.nsIn K mainGlobals "len" = some none)
    (z_list : PySem.W.nsIn K mainGlobals "list" = some none)
    (z_min : PySem.W.nsIn K mainGlobals "min" = some none)
    (z_range : PySem.W.nsIn K mainGlobals "range" = some none)
    (z_str : PySem.W.nsIn K mainGlobals "str" = some none)
    (z_tuple : PySem.W.nsIn K mainGlobals "tuple" = some none) :
    ∃ fd : FuncData, (∀ (s : Shared) (v : Value), BindsTo s fd ⟨[v], []⟩ [("script", v)]) ∧ ∀ base : Heap, K.In base → base.Ns mainGlobals mg → FnOk l.prog w K mg base CX0 34 fa fd ["script"] (spLaw K) := by
  have e := hfa.symm.trans (PySem.W.mg_of X G a25)
  cases e
  have FD1 : FunD K "__init__" "Cursor.__init__" (defArgs s_Cursor_init) (defBody s_Cursor_init) (defScope s_Cursor_init) [] [("options", .ref zo1_0), ("variables", .ref zo1_1), ("sees", .bl false)] f1 _ := ⟨⟨_, _, _, _, _, _, _, _, _, _, rfl, l1, c1, .inl ⟨rfl, rfl⟩, .inr ⟨_, rfl, (List.forall_mem_cons.mpr ⟨⟨_, nk1_0, (by first | exact ⟨_, rfl⟩ | rfl)⟩, (List.forall_mem_cons.mpr ⟨⟨_, nk1_1, (by first | exact ⟨_, rfl⟩ | rfl)⟩, (List.forall_mem_cons.mpr ⟨⟨_, nk1_2, (by first | exact ⟨_, rfl⟩ | rfl)⟩, (List.forall_mem_nil _)⟩)⟩)⟩)⟩⟩, k1⟩
  obtain ⟨ds1, vd1, bd1⟩ := FD1.binds0 (ps := ["self", "words", "options", "variables", "sees"]) 2 (by simp) rfl (fun D doc pm an cdv ct us ks h1 h2 => match us, ks, h1, h2 with | [_, _], [_, _, _], _, _ => ⟨_, _, _, _, _, _, rfl, rfl, _, _, _, _, _, _, rfl, rfl, _, _, _, _, _, _, rfl, rfl, rfl⟩)
  obtain ⟨_, kb1⟩ := FD1.kbinds0 (ps := ["self", "words", "options", "variables", "sees"]) 2 ["options", "variables", "sees"] [] (fun us _ ws => us ++ ws) (by simp) (by simp) (fun r1 _ r3 => r1.append r3) (fun D doc pm an cdv ct us mv ws h1 h2 h3 => match us, mv, ws, h1, h2, h3 with | [_, _], [], [_, _, _], _, _, _ => rfl)
  have FD10 : FunD K "read_expression" "read_expression" (defArgs s_read_expression) (defBody s_read_expression) (defScope s_read_expression) [] [("room", .int 12)] f10 _ := ⟨⟨_, _, _, _, _, _, _, _, _, _, rfl, l10, c10, .inl ⟨rfl, rfl⟩, .inr ⟨_, rfl, (List.forall_mem_cons.mpr ⟨⟨_, nk10_0, (by first | exact ⟨_, rfl⟩ | rfl)⟩, (List.forall_mem_nil _)⟩)⟩⟩, k10⟩
  obtain ⟨ds10, vd10, bd10⟩ := FD10.binds0 (ps := ["cursor", "room"]) 1 (by simp) rfl (fun D doc pm an cdv ct us ks h1 h2 => match us, ks, h1, h2 with | [_], [_], _, _ => ⟨_, _, _, _, _, _, rfl, rfl, rfl⟩)
  obtain ⟨_, kb10⟩ := FD10.kbinds0 (ps := ["cursor", "room"]) 1 ["room"] [] (fun us _ ws => us ++ ws) (by simp) (by simp) (fun r1 _ r3 => r1.append r3) (fun D doc pm an cdv ct us mv ws h1 h2 h3 => match us, mv, ws, h1, h2, h3 with | [_], [], [_], _, _, _ => rfl)
  let T : Txt K mg := { C_Cursor := C_Cursor, m_Cursor := PySem.W.mg_of X G ac_Cursor, cl_Cursor := ⟨pg_Cursor, hd_Cursor, po_Cursor, sa_Cursor⟩, n_Cursor__words := na_Cursor__words, n_Cursor_options := na_Cursor_options, n_Cursor_variables := na_Cursor_variables, n_Cursor_sees := na_Cursor_sees, n_Cursor_at := na_Cursor_at, C_GameError := C_GameError, m_GameError := PySem.W.mg_of X G ac_GameError, C_BadText := C_BadText, a_BadText_init := fe_BadText, d_BadText_init := _, m_BadText := PySem.W.mg_of X G ac_BadText, e_BadText := ⟨⟨⟨_, _, _, _, _, _, _, _, _, _, _, _, _, _, _, xl_BadText, rfl⟩, esa_BadText, exc_BadText, ety_BadText, ekp_BadText⟩, ⟨ega_BadText, egg_BadText, exc_BadText, ehd_BadText⟩, eno_BadText, ein_BadText, eit_BadText, ⟨_, _, _, _, _, _, _, _, _, _, _, _, _, _, _, _, _, _, rfl, elk_BadText, ecd_BadText, eco_BadText, evs_BadText, ecc_BadText, esu_BadText, evb_BadText, emr_BadText, opq⟩⟩, b_BadText_init := .all (fun us hl => match us, hl with | [_, _], _ => rfl), t_BadText := exm_self exc_BadText eic_BadText ety_BadText ess_BadText, i_BadText := ⟨eha_BadText, ehn, eht, ehm_BadText⟩, kv_BadText := kit_val evb_BadText, kk_BadText_BadText := kit_own ess_BadText eic_BadText ety_BadText ess_BadText, t_BadText_GameError := exm_sup re_GameError ri_GameError ert_GameError_BadText esr_GameError_BadText, kk_BadText_GameError := kit_own esr_GameError_BadText ri_GameError ert_GameError_BadText ess_BadText, z_super := PySem.W.mg_none_of X G z_super, v_GREATEST_NUMBER := _, g_GREATEST_NUMBER := PySem.W.mg_of X G ac_GREATEST_NUMBER, r_GREATEST_NUMBER := ⟨_, rfl⟩, v_LONGEST_NUMBER := _, g_LONGEST_NUMBER := PySem.W.mg_of X G ac_LONGEST_NUMBER, r_LONGEST_NUMBER := ⟨_, rfl⟩, A_OPERATORS := A_OPERATORS, g_OPERATORS := PySem.W.mg_of X G ac_OPERATORS, q_OPERATORS := fun H => .inr ⟨_, _, _, lk_OPERATORS, rfl, rfl, by show 7 ≤ sizeLine; decide, (.cons (by first | exact ⟨_, rfl⟩ | rfl) (.cons (by first | exact ⟨_, rfl⟩ | rfl) (.cons (by first | exact ⟨_, rfl⟩ | rfl) (.cons (by first | exact ⟨_, rfl⟩ | rfl) (.cons (by first | exact ⟨_, rfl⟩ | rfl) (.cons (by first | exact ⟨_, rfl⟩ | rfl) (.cons (by first | exact ⟨_, rfl⟩ | rfl) .nil)))))))⟩, qd_OPERATORS := ⟨_, lk_OPERATORS, rfl, rfl⟩, zk_Cursor_init_1 := zo1_1, qzk_Cursor_init_1 := fun H => .inr ⟨_, _, _, zk1_1, rfl, rfl, by show 0 ≤ sizeLine; decide, .nil⟩, zk_Cursor_init_0 := zo1_0, qzk_Cursor_init_0 := fun H => .inr ⟨_, _, _, zk1_0, rfl, rfl, by show 0 ≤ sizeLine; decide, .nil⟩, a_Cursor_init := f1, d_Cursor_init := _, F_Cursor_init := FD1, ds_Cursor_init := ds1, v_Cursor_init := vd1, bd_Cursor_init := bd1, kb_Cursor_init := kb1, mk_Cursor := ⟨mkc_Cursor, a1, i1, kpc_Cursor⟩, a_number_of := f2, d_number_of := _, F_number_of := fun_mk (st := s_number_of) l2 c2 k2, b_number_of := (fun_mk (st := s_number_of) l2 c2 k2).binds (ps := ["word"]) (fun _ _ _ _ _ _ us hl => match us, hl with | [_], _ => rfl), m_number_of := PySem.W.mg_of X G a2, a_Cursor_word := f3, d_Cursor_word := _, F_Cursor_word := fun_mk (st := s_Cursor_word) l3 c3 k3, b_Cursor_word := (fun_mk (st := s_Cursor_word) l3 c3 k3).binds (ps := ["self"]) (fun _ _ _ _ _ _ us hl => match us, hl with | [_], _ => rfl), p_Cursor_word := pp3, pr_Cursor_word := ⟨a3, pg3, pt3, ⟨_, pr3_⟩⟩, a_Cursor_pass_if := f4, d_Cursor_pass_if := _, F_Cursor_pass_if := fun_mk (st := s_Cursor_pass_if) l4 c4 k4, b_Cursor_pass_if := (fun_mk (st := s_Cursor_pass_if) l4 c4 k4).binds (ps := ["self", "fits"]) (fun _ _ _ _ _ _ us hl => match us, hl with | [_, _], _ => rfl), me_Cursor_pass_if := ⟨a4, i4, k4⟩, a_Cursor_take_word := f5, d_Cursor_take_word := _, F_Cursor_take_word := fun_mk (st := s_Cursor_take_word) l5 c5 k5, b_Cursor_take_word := (fun_mk (st := s_Cursor_take_word) l5 c5 k5).binds (ps := ["self", "word"]) (fun _ _ _ _ _ _ us hl => match us, hl with | [_, _], _ => rfl), me_Cursor_take_word := ⟨a5, i5, k5⟩, a_Cursor_take_number := f6, d_Cursor_take_number := _, F_Cursor_take_number := fun_mk (st := s_Cursor_take_number) l6 c6 k6, b_Cursor_take_number := (fun_mk (st := s_Cursor_take_number) l6 c6 k6).binds (ps := ["self", "least", "most"]) (fun _ _ _ _ _ _ us hl => match us, hl with | [_, _, _], _ => rfl), me_Cursor_take_number := ⟨a6, i6, k6⟩, a_Cursor_take_name := f7, d_Cursor_take_name := _, F_Cursor_take_name := fun_mk (st := s_Cursor_take_name) l7 c7 k7, b_Cursor_take_name := (fun_mk (st := s_Cursor_take_name) l7 c7 k7).binds (ps := ["self", "names"]) (fun _ _ _ _ _ _ us hl => match us, hl with | [_, _], _ => rfl), me_Cursor_take_name := ⟨a7, i7, k7⟩, a_openings := f8, d_openings := _, F_openings := fun_mk (st := s_openings) l8 c8 k8, b_openings := (fun_mk (st := s_openings) l8 c8 k8).binds (ps := ["cursor", "room"]) (fun _ _ _ _ _ _ us hl => match us, hl with | [_, _], _ => rfl), m_openings := PySem.W.mg_of X G a8, a_read_parts := f9, d_read_parts := _, F_read_parts := fun_mk (st := s_read_parts) l9 c9 k9, b_read_parts := (fun_mk (st := s_read_parts) l9 c9 k9).binds (ps := ["cursor", "word", "room"]) (fun _ _ _ _ _ _ us hl => match us, hl with | [_, _, _], _ => rfl), m_read_parts := PySem.W.mg_of X G a9, a_read_expression := f10, d_read_expression := _, F_read_expression := FD10, ds_read_expression := ds10, v_read_expression := vd10, bd_read_expression := bd10, kb_read_expression := kb10, m_read_expression := PySem.W.mg_of X G a10, a_expression_words := f11, d_expression_words := _, F_expression_words := fun_mk (st := s_expression_words) l11 c11 k11, b_expression_words := (fun_mk (st := s_expression_words) l11 c11 k11).binds (ps := ["expression"]) (fun _ _ _ _ _ _ us hl => match us, hl with | [_], _ => rfl), m_expression_words := PySem.W.mg_of X G a11, a_law_pool := f12, d_law_pool := _, F_law_pool := fun_mk (st := s_law_pool) l12 c12 k12, b_law_pool := (fun_mk (st := s_law_pool) l12 c12 k12).binds (ps := ["script", "budget"]) (fun _ _ _ _ _ _ us hl => match us, hl with | [_, _], _ => rfl), m_law_pool := PySem.W.mg_of X G a12, a_law_draw := f13, d_law_draw := _, F_law_draw := fun_mk (st := s_law_draw) l13 c13 k13, b_law_draw := (fun_mk (st := s_law_draw) l13 c13 k13).binds (ps := ["pool", "size"]) (fun _ _ _ _ _ _ us hl => match us, hl with | [_, _], _ => rfl), m_law_draw := PySem.W.mg_of X G a13, a_law_spend := f14, d_law_spend := _, F_law_spend := fun_mk (st := s_law_spend) l14 c14 k14, b_law_spend := (fun_mk (st := s_law_spend) l14 c14 k14).binds (ps := ["pool"]) (fun _ _ _ _ _ _ us hl => match us, hl with | [_], _ => rfl), m_law_spend := PySem.W.mg_of X G a14, a_law_few := f15, d_law_few := _, F_law_few := fun_mk (st := s_law_few) l15 c15 k15, b_law_few := (fun_mk (st := s_law_few) l15 c15 k15).binds (ps := ["pool", "most"]) (fun _ _ _ _ _ _ us hl => match us, hl with | [_, _], _ => rfl), m_law_few := PySem.W.mg_of X G a15, a_law_number := f16, d_law_number := _, F_law_number := fun_mk (st := s_law_number) l16 c16 k16, b_law_number := (fun_mk (st := s_law_number) l16 c16 k16).binds (ps := ["pool"]) (fun _ _ _ _ _ _ us hl => match us, hl with | [_], _ => rfl), m_law_number := PySem.W.mg_of X G a16, a_law_same := f17, d_law_same := _, F_law_same := fun_mk (st := s_law_same) l17 c17 k17, b_law_same := (fun_mk (st := s_law_same) l17 c17 k17).binds (ps := ["actual", "due"]) (fun _ _ _ _ _ _ us hl => match us, hl with | [_, _], _ => rfl), m_law_same := PySem.W.mg_of X G a17, a_law_keys := f18, d_law_keys := _, F_law_keys := fun_mk (st := s_law_keys) l18 c18 k18, b_law_keys := (fun_mk (st := s_law_keys) l18 c18 k18).binds (ps := []) (fun _ _ _ _ _ _ us hl => match us, hl with | [], _ => rfl), m_law_keys := PySem.W.mg_of X G a18, a_law_name := f19, d_law_name := _, F_law_name := fun_mk (st := s_law_name) l19 c19 k19, b_law_name := (fun_mk (st := s_law_name) l19 c19 k19).binds (ps := ["pool", "taken"]) (fun _ _ _ _ _ _ us hl => match us, hl with | [_, _], _ => rfl), m_law_name := PySem.W.mg_of X G a19, a_law_names := f20, d_law_names := _, F_law_names := fun_mk (st := s_law_names) l20 c20 k20, b_law_names := (fun_mk (st := s_law_names) l20 c20 k20).binds (ps := ["pool", "most"]) (fun _ _ _ _ _ _ us hl => match us, hl with | [_, _], _ => rfl), m_law_names := PySem.W.mg_of X G a20, a_law_expression := f21, d_law_expression := _, F_law_expression := fun_mk (st := s_law_expression) l21 c21 k21, b_law_expression := (fun_mk (st := s_law_expression) l21 c21 k21).binds (ps := ["pool", "names", "picks", "brain", "deep"]) (fun _ _ _ _ _ _ us hl => match us, hl with | [_, _, _, _, _], _ => rfl), m_law_expression := PySem.W.mg_of X G a21, a_law_rows := f22, d_law_rows := _, F_law_rows := fun_mk (st := s_law_rows) l22 c22 k22, b_law_rows := (fun_mk (st := s_law_rows) l22 c22 k22).binds (ps := ["due", "level"]) (fun _ _ _ _ _ _ us hl => match us, hl with | [_, _], _ => rfl), m_law_rows := PySem.W.mg_of X G a22, a_law_read := f23, d_law_read := _, F_law_read := fun_mk (st := s_law_read) l23 c23 k23, b_law_read := (fun_mk (st := s_law_read) l23 c23 k23).binds (ps := ["cursor", "bound"]) (fun _ _ _ _ _ _ us hl => match us, hl with | [_, _], _ => rfl), m_law_read := PySem.W.mg_of X G a23, a_law_stranger := f24, d_law_stranger := _, F_law_stranger := fun_mk (st := s_law_stranger) l24 c24 k24, b_law_stranger := (fun_mk (st := s_law_stranger) l24 c24 k24).binds (ps := ["known", "passed"]) (fun _ _ _ _ _ _ us hl => match us, hl with | [_, _], _ => rfl), m_law_stranger := PySem.W.mg_of X G a24, a_law := fa, d_law := _, F_law := fun_mk (st := s_law) l25 c25 k25, b_law := (fun_mk (st := s_law) l25 c25 k25).binds (ps := ["script"]) (fun _ _ _ _ _ _ us hl => match us, hl with | [_], _ => rfl), m_law := PySem.W.mg_of X G a25, z_bool := PySem.W.mg_none_of X G z_bool, z_int := PySem.W.mg_none_of X G z_int, z_isinstance := PySem.W.mg_none_of X G z_isinstance, z_len := PySem.W.mg_none_of X G z_len, z_list := PySem.W.mg_none_of X G z_list, z_min := PySem.W.mg_none_of X G z_min, z_range := PySem.W.mg_none_of X G z_range, z_str := PySem.W.mg_none_of X G z_str, z_tuple := PySem.W.mg_none_of X G z_tuple }
  exact ⟨T.d_law, fun s v => .of_eq rfl, fun base _ _ => ok_law T⟩
end Own
open PySem PySem.W PyProof.Rows
set_option maxHeartbeats 0 in
theorem PySem.Challenge.cw_sureplay_k13_expressions_read_and_writte_holds : PySem.Challenge.rw_sureplay_k13_expressions_read_and_writte.Holds := by
  w_on; o_law; k_head; (case hw => w_witness2)
  k_fill
  refine L2.walk_of (l := PySem.Challenge.rw_sureplay_k13_expressions_read_and_writte) (n := 63) (k := 34) (x := "script") (CX := fun _ => L2.CX0) (sp := fun w => Own.spLaw _) rfl (by decide) rfl ⟨rfl, by decide, by decide⟩ (fun w h Y => PySem.W.kIn_of Y) ?F (fun _ _ a ns hl _ hS => ⟨a, ns, rfl, hS, hl, fun _ => rfl⟩) (fun _ _ _ _ _ h => h)
  case F =>
    intro w mg fa h KX G hmg
    haveI pro : Own.PrOk PySem.Challenge.rw_sureplay_k13_expressions_read_and_writte.prog := ⟨by decide +kernel, by decide +kernel⟩
    refine' Own.all_mk KX G hmg ?ac_Cursor ?pg_Cursor ?hd_Cursor ?po_Cursor ?sa_Cursor ?mkc_Cursor ?kpc_Cursor ?na_Cursor__words ?na_Cursor_options ?na_Cursor_variables ?na_Cursor_sees ?na_Cursor_at ?ac_GameError ?re_GameError ?ri_GameError ?ac_BadText ?xl_BadText ?esa_BadText ?exc_BadText ?ety_BadText ?ekp_BadText ?ega_BadText ?egg_BadText ?ehd_BadText ?eno_BadText ?ein_BadText ?eit_BadText ?eic_BadText ?ess_BadText ?elk_BadText ?ecd_BadText ?eco_BadText ?evs_BadText ?ecc_BadText ?esu_BadText ?evb_BadText ?emr_BadText ?eha_BadText ?ehm_BadText ?esr_GameError_BadText ?ert_GameError_BadText ?ehn ?eht ?opq ?z_super ?ac_GREATEST_NUMBER ?ac_LONGEST_NUMBER ?ac_OPERATORS ?lk_OPERATORS ?a1 ?i1 ?l1 ?c1 ?k1 ?nk1_2 ?nk1_1 ?zk1_1 ?nk1_0 ?zk1_0 ?a2 ?l2 ?c2 ?k2 ?a3 ?pg3 ?pt3 ?pr3_ ?l3 ?c3 ?k3 ?a4 ?i4 ?l4 ?c4 ?k4 ?a5 ?i5 ?l5 ?c5 ?k5 ?a6 ?i6 ?l6 ?c6 ?k6 ?a7 ?i7 ?l7 ?c7 ?k7 ?a8 ?l8 ?c8 ?k8 ?a9 ?l9 ?c9 ?k9 ?a10 ?l10 ?c10 ?k10 ?nk10_0 ?a11 ?l11 ?c11 ?k11 ?a12 ?l12 ?c12 ?k12 ?a13 ?l13 ?c13 ?k13 ?a14 ?l14 ?c14 ?k14 ?a15 ?l15 ?c15 ?k15 ?a16 ?l16 ?c16 ?k16 ?a17 ?l17 ?c17 ?k17 ?a18 ?l18 ?c18 ?k18 ?a19 ?l19 ?c19 ?k19 ?a20 ?l20 ?c20 ?k20 ?a21 ?l21 ?c21 ?k21 ?a22 ?l22 ?c22 ?k22 ?a23 ?l23 ?c23 ?k23 ?a24 ?l24 ?c24 ?k24 ?a25 ?l25 ?c25 ?k25 ?z_bool ?z_int ?z_isinstance ?z_len ?z_list ?z_min ?z_range ?z_str ?z_tuple
    (case ac_Cursor => k_is)
    (case ac_GameError => k_is)
    (case ac_BadText => k_is)
    (case ac_GREATEST_NUMBER => k_is)
    (case ac_LONGEST_NUMBER => k_is)
    (case ac_OPERATORS => k_is)
    (case pg_Cursor => k_is)
    (case hd_Cursor => k_is)
    (case po_Cursor => k_is)
    (case sa_Cursor => k_is)
    (case mkc_Cursor => k_is)
    (case kpc_Cursor => k_is)
    (case na_Cursor__words => k_is)
    (case na_Cursor_options => k_is)
    (case na_Cursor_variables => k_is)
    (case na_Cursor_sees => k_is)
    (case na_Cursor_at => k_is)
    (case re_GameError => k_is)
    (case ri_GameError => k_is)
    (case xl_BadText => k_is)
    (case esa_BadText => k_is)
    (case exc_BadText => k_is)
    (case ety_BadText => k_is)
    (case ekp_BadText => k_is)
    (case ega_BadText => k_is)
    (case egg_BadText => k_is)
    (case ehd_BadText => k_is)
    (case eno_BadText => k_is)
    (case ein_BadText => k_is)
    (case eit_BadText => k_is)
    (case eic_BadText => k_is)
    (case ess_BadText => first | rfl | k_is)
    (case elk_BadText => k_is)
    (case ecd_BadText => k_is)
    (case eco_BadText => k_is)
    (case evs_BadText => first | rfl | decide +kernel)
    (case ecc_BadText => k_is)
    (case esu_BadText => ks_is)
    (case evb_BadText => k_is)
    (case emr_BadText => k_is)
    (case eha_BadText => k_is)
    (case ehm_BadText => k_is)
    (case esr_GameError_BadText => first | rfl | k_is)
    (case ert_GameError_BadText => k_is)
    (case ehn => k_is)
    (case eht => k_is)
    (case opq => k_is)
    (case z_super => k_is)
    (case lk_OPERATORS => k_is)
    (case a1 => k_is)
    (case i1 => k_is)
    (case l1 => k_is)
    (case c1 => k_is)
    (case k1 => k_is)
    (case nk1_2 => k_is)
    (case nk1_1 => k_is)
    (case zk1_1 => k_is)
    (case nk1_0 => k_is)
    (case zk1_0 => k_is)
    (case a2 => k_is)
    (case l2 => k_is)
    (case c2 => k_is)
    (case k2 => k_is)
    (case a3 => k_is)
    (case pg3 => k_is)
    (case pt3 => k_is)
    (case pr3_ => k_is)
    (case l3 => k_is)
    (case c3 => k_is)
    (case k3 => k_is)
    (case a4 => k_is)
    (case i4 => k_is)
    (case l4 => k_is)
    (case c4 => k_is)
    (case k4 => k_is)
    (case a5 => k_is)
    (case i5 => k_is)
    (case l5 => k_is)
    (case c5 => k_is)
    (case k5 => k_is)
    (case a6 => k_is)
    (case i6 => k_is)
    (case l6 => k_is)
    (case c6 => k_is)
    (case k6 => k_is)
    (case a7 => k_is)
    (case i7 => k_is)
    (case l7 => k_is)
    (case c7 => k_is)
    (case k7 => k_is)
    (case a8 => k_is)
    (case l8 => k_is)
    (case c8 => k_is)
    (case k8 => k_is)
    (case a9 => k_is)
    (case l9 => k_is)
    (case c9 => k_is)
    (case k9 => k_is)
    (case a10 => k_is)
    (case l10 => k_is)
    (case c10 => k_is)
    (case k10 => k_is)
    (case nk10_0 => k_is)
    (case a11 => k_is)
    (case l11 => k_is)
    (case c11 => k_is)
    (case k11 => k_is)
    (case a12 => k_is)
    (case l12 => k_is)
    (case c12 => k_is)
    (case k12 => k_is)
    (case a13 => k_is)
    (case l13 => k_is)
    (case c13 => k_is)
    (case k13 => k_is)
    (case a14 => k_is)
    (case l14 => k_is)
    (case c14 => k_is)
    (case k14 => k_is)
    (case a15 => k_is)
    (case l15 => k_is)
    (case c15 => k_is)
    (case k15 => k_is)
    (case a16 => k_is)
    (case l16 => k_is)
    (case c16 => k_is)
    (case k16 => k_is)
    (case a17 => k_is)
    (case l17 => k_is)
    (case c17 => k_is)
    (case k17 => k_is)
    (case a18 => k_is)
    (case l18 => k_is)
    (case c18 => k_is)
    (case k18 => k_is)
    (case a19 => k_is)
    (case l19 => k_is)
    (case c19 => k_is)
    (case k19 => k_is)
    (case a20 => k_is)
    (case l20 => k_is)
    (case c20 => k_is)
    (case k20 => k_is)
    (case a21 => k_is)
    (case l21 => k_is)
    (case c21 => k_is)
    (case k21 => k_is)
    (case a22 => k_is)
    (case l22 => k_is)
    (case c22 => k_is)
    (case k22 => k_is)
    (case a23 => k_is)
    (case l23 => k_is)
    (case c23 => k_is)
    (case k23 => k_is)
    (case a24 => k_is)
    (case l24 => k_is)
    (case c24 => k_is)
    (case k24 => k_is)
    (case a25 => k_is)
    (case l25 => k_is)
    (case c25 => k_is)
    (case k25 => k_is)
    (case z_bool => k_is)
    (case z_int => k_is)
    (case z_isinstance => k_is)
    (case z_len => k_is)
    (case z_list => k_is)
    (case z_min => k_is)
    (case z_range => k_is)
    (case z_str => k_is)
    (case z_tuple => k_is)
#print axioms PySem.Challenge.cw_sureplay_k13_expressions_read_and_writte_holds
