import PyProof.Rows.All
import Wide.All
import OpenK.AllK
import Wide.FinOn
import HandS.TupAny
import HandS.ForMost
import HandS.IsInst
import HandS.Codes
import HandS.Style
import KE.GoesMore
import HandS.Iter
import HandS.More
import HandS.Deep
import PySem.Challenge.RW_sureplay_k35_trees_that_do_not_remember
set_option Elab.async false
set_option linter.all false
set_option maxRecDepth 100000
set_option maxHeartbeats 4000000
namespace Own
open PySem PySem.Spec PyProof.Rows L2
def topS (i : Nat) : Stmt := PySem.Challenge.pw_sureplay_k35_trees_that_do_not_remember.main.body.getD i (.Pass ⟨0, 0, 0, 0⟩)
abbrev s_End_init : Stmt := (inClass (topS 1) 0)
abbrev N_End_init : List Str := ["self", "paid"]
theorem sc_End_init : FnScope N_End_init ["self", "paid"] (defScope s_End_init) := ⟨rfl, rfl, rfl, by decide +kernel, rfl, by decide +kernel, by decide +kernel⟩
abbrev s_Lot_init : Stmt := (inClass (topS 2) 0)
abbrev N_Lot_init : List Str := ["self", "parts"]
theorem sc_Lot_init : FnScope N_Lot_init ["self", "parts"] (defScope s_Lot_init) := ⟨rfl, rfl, rfl, by decide +kernel, rfl, by decide +kernel, by decide +kernel⟩
abbrev s_Turn_init : Stmt := (inClass (topS 3) 0)
abbrev N_Turn_init : List Str := ["self", "player", "view", "parts"]
theorem sc_Turn_init : FnScope N_Turn_init ["self", "player", "view", "parts"] (defScope s_Turn_init) := ⟨rfl, rfl, rfl, by decide +kernel, rfl, by decide +kernel, by decide +kernel⟩
abbrev s_parts_of : Stmt := (topS 4)
abbrev N_parts_of : List Str := ["node"]
theorem sc_parts_of : FnScope N_parts_of ["node"] (defScope s_parts_of) := ⟨rfl, rfl, rfl, by decide +kernel, rfl, by decide +kernel, by decide +kernel⟩
abbrev s_last_row : Stmt := (topS 6)
abbrev N_last_row : List Str := ["view", "at"]
theorem sc_last_row : FnScope N_last_row ["view"] (defScope s_last_row) := ⟨rfl, rfl, rfl, by decide +kernel, rfl, by decide +kernel, by decide +kernel⟩
abbrev s_remembers : Stmt := (topS 7)
abbrev N_remembers : List Str := ["tree", "todo", "node", "first", "second", "part", "move"]
theorem sc_remembers : FnScope N_remembers ["tree"] (defScope s_remembers) := ⟨rfl, rfl, rfl, by decide +kernel, rfl, by decide +kernel, by decide +kernel⟩
abbrev s_law_cell : Stmt := (topS 9)
abbrev N_law_cell : List Str := ["script", "k"]
theorem sc_law_cell : FnScope N_law_cell ["script", "k"] (defScope s_law_cell) := ⟨rfl, rfl, rfl, by decide +kernel, rfl, by decide +kernel, by decide +kernel⟩
abbrev s_law_row : Stmt := (topS 11)
abbrev N_law_row : List Str := ["cell", "count", "size", "state", "row", "k"]
theorem sc_law_row : FnScope N_law_row ["cell", "count", "size"] (defScope s_law_row) := ⟨rfl, rfl, rfl, by decide +kernel, rfl, by decide +kernel, by decide +kernel⟩
abbrev s_law_stages : Stmt := (topS 12)
abbrev N_law_stages : List Str := ["script", "most", "stages", "count", "digits", "k", "size", "show"]
theorem sc_law_stages : FnScope N_law_stages ["script", "most"] (defScope s_law_stages) := ⟨rfl, rfl, rfl, by decide +kernel, rfl, by decide +kernel, by decide +kernel⟩
abbrev s_law_paths : Stmt := (topS 13)
abbrev N_law_paths : List Str := ["stages", "paths", "stage", "longer", "path", "k"]
theorem sc_law_paths : FnScope N_law_paths ["stages"] (defScope s_law_paths) := ⟨rfl, rfl, rfl, by decide +kernel, rfl, by decide +kernel, by decide +kernel⟩
abbrev s_law_view : Stmt := (topS 14)
abbrev N_law_view : List Str := ["stages", "path", "player", "view", "number", "rounds", "k", "stage"]
theorem sc_law_view : FnScope N_law_view ["stages", "path", "player"] (defScope s_law_view) := ⟨rfl, rfl, rfl, by decide +kernel, rfl, by decide +kernel, by decide +kernel⟩
abbrev s_law_asked : Stmt := (topS 15)
abbrev N_law_asked : List Str := ["stages", "path", "number", "k", "stage", "view"]
theorem sc_law_asked : FnScope N_law_asked ["stages", "path"] (defScope s_law_asked) := ⟨rfl, rfl, rfl, by decide +kernel, rfl, by decide +kernel, by decide +kernel⟩
abbrev s_law_changed : Stmt := (topS 17)
abbrev N_law_changed : List Str := ["stages", "path", "place", "view", "stage", "parts", "k"]
theorem sc_law_changed : FnScope N_law_changed ["stages", "path", "place", "view"] (defScope s_law_changed) := ⟨rfl, rfl, rfl, by decide +kernel, rfl, by decide +kernel, by decide +kernel⟩
abbrev s_law_last : Stmt := (topS 18)
abbrev N_law_last : List Str := ["view", "k", "at"]
theorem sc_law_last : FnScope N_law_last ["view"] (defScope s_law_last) := ⟨rfl, rfl, rfl, by decide +kernel, rfl, by decide +kernel, by decide +kernel⟩
abbrev s_law_keeps : Stmt := (topS 19)
abbrev N_law_keeps : List Str := ["stages", "place", "view", "path", "last", "k", "player", "seen"]
theorem sc_law_keeps : FnScope N_law_keeps ["stages", "place", "view"] (defScope s_law_keeps) := ⟨rfl, rfl, rfl, by decide +kernel, rfl, by decide +kernel, by decide +kernel⟩
abbrev s_law_spoilt : Stmt := (topS 20)
abbrev N_law_spoilt : List Str := ["view", "cell", "at", "k"]
theorem sc_law_spoilt : FnScope N_law_spoilt ["view", "cell"] (defScope s_law_spoilt) := ⟨rfl, rfl, rfl, by decide +kernel, rfl, by decide +kernel, by decide +kernel⟩
abbrev s_law_bool : Stmt := (topS 21)
abbrev N_law_bool : List Str := ["actual", "due"]
theorem sc_law_bool : FnScope N_law_bool ["actual", "due"] (defScope s_law_bool) := ⟨rfl, rfl, rfl, by decide +kernel, rfl, by decide +kernel, by decide +kernel⟩
abbrev s_law : Stmt := (topS 22)
abbrev N_law : List Str := ["script", "stages", "turns", "path", "k", "cell", "place", "view", "other"]
theorem sc_law : FnScope N_law ["script"] (defScope s_law) := ⟨rfl, rfl, rfl, by decide +kernel, rfl, by decide +kernel, by decide +kernel⟩
def spLaw (K : PySem.W.Frag) : Sp := fun vs H Q _ => ∃ (a : Addr) (ns : List Int), vs = [.ref a] ∧ SqL K H a (ns.map V.int) ∧ ns.length ≤ 63 ∧ ∀ H', Q (.bl true) H'
def cell (ns : List Int) (k : Int) : Int := ns.getD k.toNat 0
theorem same_upd {H : Hp} {p : Addr} {o : HO} (h : H p = none) : Same H (upd H p o) := fun b x e => by
  rw [upd_ne (ne_of_none e h)]
  exact e
theorem cut_from (xs : List V) (k : Nat) : cutV xs (some (k : Int)) none = xs.drop k := by
  unfold cutV
  rw [HT.sIx_nat, HT.sIx_none]
  by_cases h : k ≤ xs.length
  · rw [Nat.min_eq_left h]
    exact List.take_of_length_le (by rw [List.length_drop]; omega)
  · rw [Nat.min_eq_right (by omega), List.drop_eq_nil_of_le (by omega), List.drop_eq_nil_of_le (by omega)]
    simp
theorem cut_to (xs : List V) (k : Nat) : cutV xs none (some (k : Int)) = xs.take k := by
  unfold cutV
  rw [HT.sIx_nat, HT.sIx_none, List.drop_zero, Nat.sub_zero]
  by_cases h : k ≤ xs.length
  · rw [Nat.min_eq_left h]
  · rw [Nat.min_eq_right (by omega), List.take_of_length_le (Nat.le_refl _), List.take_of_length_le (by omega)]
theorem cut_to' (xs : List V) (k : Int) (h : 0 ≤ k) : cutV xs none (some k) = xs.take k.toNat := by
  obtain ⟨m, rfl⟩ := Int.eq_ofNat_of_zero_le h
  exact cut_to xs m
theorem cut_from' (xs : List V) (k : Int) (h : 0 ≤ k) : cutV xs (some k) none = xs.drop k.toNat := by
  obtain ⟨m, rfl⟩ := Int.eq_ofNat_of_zero_le h
  exact cut_from xs m
theorem small_le {n : Nat} (h : n ≤ 1000) : n ≤ sizeLine := Nat.le_of_lt (small1000 h)
theorem at_ofG {α : Type} {xs : List α} {z : Int} {j : Nat} {v : α} (e : z = (j : Int)) (h : xs[j]? = some v) : atI xs z = some v := by
  rw [e]
  exact atI_nat h
theorem int_of_map {ns : List Int} {i : Nat} {y : V} (hi : (ns.map V.int)[i]? = some y) : ∃ z, ns[i]? = some z ∧ y = V.int z := by
  rw [List.getElem?_map] at hi
  cases e : ns[i]? with
  | none => rw [e] at hi; cases hi
  | some u => rw [e] at hi; exact ⟨u, rfl, (Option.some.inj hi).symm⟩
theorem dp_ints {K : PySem.W.Frag} {H : Hp} : ∀ ns : List Int, DpAll K H (ns.map V.int) (ns.map PyData.int)
  | [] => .nil
  | n :: r => .cons (.int n) (dp_ints r)
theorem lay_ints : ∀ ns : List Int, PyData.canLayAll0 (ns.map PyData.int) = true ∧ PyData.depthAll (ns.map PyData.int) = 0
  | [] => ⟨by simp [PyData.canLayAll0], by simp [PyData.depthAll]⟩
  | n :: r => by
    have ih := lay_ints r
    exact ⟨by simp [PyData.canLayAll0, PyData.canLay0, ih.1], by simp [PyData.depthAll, PyData.depth, ih.2]⟩
theorem shaped_ints (ns : List Int) : SeqAt.shaped (.list (ns.map PyData.int)) = true := by
  have h := lay_ints ns
  unfold SeqAt.shaped
  simp [PyData.canLay0, PyData.depth, h.1, h.2]
theorem eqv_ints (ns : List Int) : PyData.eqv (.list (ns.map PyData.int)) (.list (ns.map PyData.int)) = true :=
  SeqAt.eqv_refl _ (by rw [PyData.canLay0]; exact (lay_ints ns).1)

mutual
/-- data that never changes: scalars and tracked tuples of such -/
inductive Im (H : Hp) : V → PyData → Prop
  | non : Im H .non .none
  | bl (b : Bool) : Im H (.bl b) (.bool b)
  | int (i : Int) : Im H (.int i) (.int i)
  | str (x : Str) : Im H (.str x) (.str x)
  | tup {a : Addr} {xs : List V} {ds : List PyData} : H a = some (.tup xs) → ImAll H xs ds → Im H (.ref a) (.tuple ds)
inductive ImAll (H : Hp) : List V → List PyData → Prop
  | nil : ImAll H [] []
  | cons {v : V} {vs : List V} {d : PyData} {ds : List PyData} : Im H v d → ImAll H vs ds → ImAll H (v :: vs) (d :: ds)
end
/-- the tracked tuples stay -/
def KeepT (H H' : Hp) : Prop := ∀ b xs, H b = some (.tup xs) → H' b = some (.tup xs)
theorem KeepT.refl (H : Hp) : KeepT H H := fun _ _ h => h
theorem KeepT.trans {H H1 H2 : Hp} (a : KeepT H H1) (b : KeepT H1 H2) : KeepT H H2 := fun c x h => b c x (a c x h)
theorem keepT_of {H H' : Hp} (s : Same H H') : KeepT H H' := fun b xs h => s b _ h
theorem keepT_lst {H : Hp} {p : Addr} {xs ys : List V} (h : H p = some (.lst xs)) : KeepT H (upd H p (.lst ys)) := fun b zs e => by
  have n : b ≠ p := fun q => by rw [q, h] at e; cases e
  rw [upd_ne n]
  exact e
mutual
theorem Im.keep {H H' : Hp} (k : KeepT H H') : ∀ {v : V} {d : PyData}, Im H v d → Im H' v d
  | _, _, .non => .non
  | _, _, .bl b => .bl b
  | _, _, .int i => .int i
  | _, _, .str x => .str x
  | _, _, .tup h a => .tup (k _ _ h) (ImAll.keep k a)
theorem ImAll.keep {H H' : Hp} (k : KeepT H H') : ∀ {vs : List V} {ds : List PyData}, ImAll H vs ds → ImAll H' vs ds
  | _, _, .nil => .nil
  | _, _, .cons h a => .cons (Im.keep k h) (ImAll.keep k a)
end
mutual
theorem Im.dp {K : PySem.W.Frag} {H : Hp} : ∀ {v : V} {d : PyData}, Im H v d → Dp K H v d
  | _, _, .non => .non
  | _, _, .bl b => .bl b
  | _, _, .int i => .int i
  | _, _, .str x => .str x
  | _, _, .tup h a => .tup (SqT.of h) (ImAll.dp a)
theorem ImAll.dp {K : PySem.W.Frag} {H : Hp} : ∀ {vs : List V} {ds : List PyData}, ImAll H vs ds → DpAll K H vs ds
  | _, _, .nil => .nil
  | _, _, .cons h a => .cons (Im.dp h) (ImAll.dp a)
end
theorem ImAll.len {H : Hp} : ∀ {vs : List V} {ds : List PyData}, ImAll H vs ds → vs.length = ds.length
  | _, _, .nil => rfl
  | _, _, .cons _ a => by rw [List.length_cons, List.length_cons, ImAll.len a]
theorem ImAll.append {H : Hp} : ∀ {vs us : List V} {ds es : List PyData}, ImAll H vs ds → ImAll H us es → ImAll H (vs ++ us) (ds ++ es)
  | _, _, _, _, .nil, b => b
  | _, _, _, _, .cons h a, b => .cons h (ImAll.append a b)
theorem ImAll.get {H : Hp} : ∀ {vs : List V} {ds : List PyData} {i : Nat} {d : PyData}, ImAll H vs ds → ds[i]? = some d → ∃ v, vs[i]? = some v ∧ Im H v d
  | _, _, 0, _, .cons h _, e => by
    cases e
    exact ⟨_, rfl, h⟩
  | _, _, i + 1, _, .cons _ a, e => by
    rw [List.getElem?_cons_succ] at e
    rw [List.getElem?_cons_succ]
    exact ImAll.get a e
theorem ImAll.take {H : Hp} : ∀ {vs : List V} {ds : List PyData} (i : Nat), ImAll H vs ds → ImAll H (vs.take i) (ds.take i)
  | _, _, 0, _ => by
    rw [List.take_zero, List.take_zero]
    exact .nil
  | _, _, _ + 1, .nil => by
    rw [List.take_nil, List.take_nil]
    exact .nil
  | _, _, i + 1, .cons h a => .cons h (ImAll.take i a)
theorem ImAll.snoc {H : Hp} {vs : List V} {ds : List PyData} {v : V} {d : PyData} (a : ImAll H vs ds) (h : Im H v d) : ImAll H (vs ++ [v]) (ds ++ [d]) := a.append (.cons h .nil)
theorem ImAll.rev {H : Hp} : ∀ {vs : List V} {ds : List PyData}, ImAll H vs ds → ImAll H vs.reverse ds.reverse
  | _, _, .nil => .nil
  | _, _, .cons h a => by
    rw [List.reverse_cons, List.reverse_cons]
    exact (ImAll.rev a).snoc h
mutual
/-- all sequences are short -/
def wide : PyData → Bool
  | .list xs => decide (xs.length ≤ 1000000) && wideAll xs
  | .tuple xs => decide (xs.length ≤ 1000000) && wideAll xs
  | .none => true
  | .bool _ => true
  | .int _ => true
  | .str _ => true
  | .dict _ => false
def wideAll : List PyData → Bool
  | [] => true
  | x :: r => wide x && wideAll r
end
/-- what a comparison asks of data: sizes -/
def Lay (n : Nat) (d : PyData) : Prop := d.canLay0 = true ∧ d.depth ≤ n ∧ wide d = true
theorem lay_all : ∀ {n : Nat} {ds : List PyData}, (∀ d ∈ ds, Lay n d) → PyData.canLayAll0 ds = true ∧ PyData.depthAll ds ≤ n ∧ wideAll ds = true
  | n, [], _ => ⟨by simp [PyData.canLayAll0], by simp [PyData.depthAll], by simp [wideAll]⟩
  | n, d :: r, h => by
    have h1 := h d List.mem_cons_self
    have h2 := lay_all fun e he => h e (List.mem_cons_of_mem d he)
    refine ⟨by simp [PyData.canLayAll0, h1.1, h2.1], ?_, by simp [wideAll, h1.2.2, h2.2.2]⟩
    simp only [PyData.depthAll]
    exact Nat.max_le.mpr ⟨h1.2.1, h2.2.1⟩
theorem lay_tuple {n : Nat} {ds : List PyData} (hl : ds.length ≤ 1000000) (h : ∀ d ∈ ds, Lay n d) : Lay (n + 1) (.tuple ds) := by
  have q := lay_all h
  exact ⟨by simp [PyData.canLay0, q.1], by simp only [PyData.depth]; omega, by simp only [wide, q.2.2, decide_eq_true hl]; rfl⟩
theorem lay_list {n : Nat} {ds : List PyData} (hl : ds.length ≤ 1000000) (h : ∀ d ∈ ds, Lay n d) : Lay (n + 1) (.list ds) := by
  have q := lay_all h
  exact ⟨by simp [PyData.canLay0, q.1], by simp only [PyData.depth]; omega, by simp only [wide, q.2.2, decide_eq_true hl]; rfl⟩
theorem Lay.mono {n m : Nat} {d : PyData} (h : Lay n d) (l : n ≤ m) : Lay m d := ⟨h.1, Nat.le_trans h.2.1 l, h.2.2⟩
theorem Lay.shaped {n : Nat} {d : PyData} (h : Lay n d) (l : n ≤ 64) : SeqAt.shaped d = true := by
  unfold SeqAt.shaped
  rw [h.1, decide_eq_true (Nat.le_trans h.2.1 l)]
  rfl
theorem Lay.refl {n : Nat} {d : PyData} (h : Lay n d) : PyData.eqv d d = true := SeqAt.eqv_refl _ h.1
theorem lay_int (i : Int) : Lay 0 (.int i) := ⟨by simp [PyData.canLay0], by simp [PyData.depth], by simp [wide]⟩
theorem lay_str {x : Str} (h : PyData.strOk x = true) : Lay 0 (.str x) := ⟨by simp [PyData.canLay0, h], by simp [PyData.depth], by simp [wide]⟩
theorem lay_none : Lay 0 .none := ⟨by simp [PyData.canLay0], by simp [PyData.depth], by simp [wide]⟩
theorem lay_bool (b : Bool) : Lay 0 (.bool b) := ⟨by simp [PyData.canLay0], by simp [PyData.depth], by simp [wide]⟩
theorem wide_get {ds : List PyData} {i : Nat} {d : PyData} : wideAll ds = true → ds[i]? = some d → wide d = true := by
  induction ds generalizing i with
  | nil => intro _ h; simp at h
  | cons x r ih =>
    intro hw h
    simp only [wideAll, Bool.and_eq_true] at hw
    cases i with
    | zero => cases h; exact hw.1
    | succ i => exact ih (i := i) hw.2 (by rw [List.getElem?_cons_succ] at h; exact h)
/-- view + (event,) -/
theorem cat_ev {K : PySem.W.Frag} {H : Hp} {v t u : Addr} {xs : List V} {ds : List PyData} {e : PyData} {Q : VK} (hv : H v = some (.tup xs)) (hA : ImAll H xs ds) (he : Im H (.ref t) e) (hu : H u = some (.tup [.ref t])) (hz : xs.length ≤ 900)
    (k : ∀ (p : Addr) (H' : Hp), Same H H' → Im H' (.ref p) (.tuple (ds ++ [e])) → Q (.ref p) H') : rCatA K (.ref v) (.ref u) H Q := by
  refine ⟨v, u, xs, [.ref t], rfl, rfl, SqT.of hv, SqT.of hu, by show xs.length + 1 ≤ sizeLine; exact small_le (by omega), fun z => ?_, fun _ z => (by cases z), fun _ _ p hp => ?_⟩
  · subst z
    cases hA
    exact k u H (Same.refl H) (.tup hu (.cons he .nil))
  · exact k p _ (same_upd hp) (.tup upd_same ((hA.snoc he).keep (keepT_of (same_upd hp))))
theorem upd2_same {H : Hp} {t u : Addr} {o o' : HO} (ht : H t = none) (hu : upd H t o u = none) : Same H (upd (upd H t o) u o') := (same_upd ht).trans (same_upd hu)


def evDid (k : Int) : PyData := .tuple [.str "did", .int k]
/-- an event: a name, then what it tells -/
def Ev (d : PyData) : Prop := Lay 1 d ∧ ∃ (s : Str) (rest : List PyData), d = .tuple (.str s :: rest) ∧ (s = "did" → ∃ k, rest = [.int k])
def didOf : PyData → Option Int
  | .tuple [.str s, .int k] => if s = "did" then some k else none
  | _ => none
def lastRow : List PyData → Option (List PyData × Int)
  | [] => none
  | d :: r => match lastRow r with
    | some (pre, k) => some (d :: pre, k)
    | none => (didOf d).map fun k => ([], k)
theorem didOf_did (k : Int) : didOf (evDid k) = some k := by
  unfold didOf evDid
  simp
theorem lastRow_snoc_none : ∀ (ds : List PyData) (e : PyData), didOf e = none → lastRow (ds ++ [e]) = lastRow ds
  | [], e, h => by
    show (match lastRow [] with | some (pre, k) => some (e :: pre, k) | none => (didOf e).map fun k => ([], k)) = none
    rw [h]
    rfl
  | d :: r, e, h => by
    have ih := lastRow_snoc_none r e h
    show (match lastRow (r ++ [e]) with | some (pre, k) => some (d :: pre, k) | none => (didOf d).map fun k => ([], k)) = _
    rw [ih]
    rfl
theorem lastRow_snoc_some : ∀ (ds : List PyData) (e : PyData) (k : Int), didOf e = some k → lastRow (ds ++ [e]) = some (ds, k)
  | [], e, k, h => by
    show (match lastRow [] with | some (pre, k) => some (e :: pre, k) | none => (didOf e).map fun k => ([], k)) = some ([], k)
    rw [h]
    rfl
  | d :: r, e, k, h => by
    have ih := lastRow_snoc_some r e k h
    show (match lastRow (r ++ [e]) with | some (pre, k) => some (d :: pre, k) | none => (didOf d).map fun k => ([], k)) = some (d :: r, k)
    rw [ih]
theorem lastRow_len : ∀ {ds pre : List PyData} {k : Int}, lastRow ds = some (pre, k) → pre.length < ds.length ∧ ∃ post, ds = pre ++ evDid k :: post ∨ True
  | [], _, _, h => by cases h
  | d :: r, pre, k, h => by
    refine ⟨?_, [], .inr trivial⟩
    unfold lastRow at h
    cases e : lastRow r with
    | none =>
      rw [e] at h
      cases q : didOf d with
      | none => rw [q] at h; cases h
      | some j =>
        rw [q] at h
        cases h
        simp
    | some p =>
      obtain ⟨p1, p2⟩ := p
      rw [e] at h
      cases h
      have ih := (lastRow_len e).1
      rw [List.length_cons, List.length_cons]
      omega
theorem lastRow_take : ∀ {ds pre : List PyData} {k : Int}, lastRow ds = some (pre, k) → pre = ds.take pre.length
  | [], _, _, h => by cases h
  | d :: r, pre, k, h => by
    unfold lastRow at h
    cases e : lastRow r with
    | none =>
      rw [e] at h
      cases q : didOf d with
      | none => rw [q] at h; cases h
      | some j =>
        rw [q] at h
        cases h
        rfl
    | some p =>
      obtain ⟨p1, p2⟩ := p
      rw [e] at h
      cases h
      have ih := lastRow_take e
      show d :: p1 = d :: r.take p1.length
      rw [← ih]
def row (pre : List PyData) (k : Int) : PyData := .tuple [.tuple pre, .int k]
inductive Way : List PyData → List PyData → Prop
  | nil {ds : List PyData} (h : lastRow ds = none) : Way ds []
  | snoc {ds pre : List PyData} {k : Int} {rs : List PyData} (h : lastRow ds = some (pre, k)) (w : Way pre rs) : Way ds (rs ++ [row pre k])
theorem Way.more {ds rs : List PyData} {e : PyData} (w : Way ds rs) (h : didOf e = none) : Way (ds ++ [e]) rs := by
  cases w with
  | nil q => exact .nil (by rw [lastRow_snoc_none _ _ h]; exact q)
  | snoc q w => exact .snoc (by rw [lastRow_snoc_none _ _ h]; exact q) w
theorem Way.did {ds rs : List PyData} (w : Way ds rs) (k : Int) : Way (ds ++ [evDid k]) (rs ++ [row ds k]) := .snoc (lastRow_snoc_some _ _ _ (didOf_did k)) w
theorem ev_of (s : Str) (hs : PyData.strOk s = true) (ns : List Int) (hd : s ≠ "did") (hn : ns.length ≤ 100) : Ev (.tuple (.str s :: ns.map PyData.int)) := by
  refine ⟨lay_tuple (n := 0) (by rw [List.length_cons, List.length_map]; omega) fun d m => ?_, s, _, rfl, fun e => absurd e hd⟩
  rcases List.mem_cons.mp m with rfl | m
  · exact lay_str hs
  · obtain ⟨i, _, rfl⟩ := List.mem_map.mp m
    exact lay_int i
theorem ev_did (k : Int) : Ev (evDid k) := by
  refine ⟨lay_tuple (n := 0) (by show 2 ≤ 1000000; decide) fun d m => ?_, "did", [.int k], rfl, fun _ => ⟨k, rfl⟩⟩
  rcases List.mem_cons.mp m with rfl | m
  · exact lay_str (by decide +kernel)
  · rw [List.mem_singleton.mp m]
    exact lay_int k
theorem didOf_ne {s : Str} {r : List PyData} (h : s ≠ "did") : didOf (.tuple (.str s :: r)) = none := by
  unfold didOf
  split
  · rename_i e
    cases e
    rw [if_neg h]
  · rfl

/-! ### enumerate over a tuple -/
section
open AutoSeq1 (wpAny_loadPart')
/-- pairs of a place and an item of the tracked tuple at a -/
def IteT (a : Addr) : It :=
  ⟨fun i H => ∃ (xs : List V) (x : V), H a = some (.tup xs) ∧ xs[i]? = some x, fun i H v H' => ∃ T x, v = .ref T ∧ H T = none ∧ H' = upd H T (.tup [.int (i : Nat), x]) ∧ ∀ xs, H a = some (.tup xs) → xs[i]? = some x, fun i H => ∃ xs : List V, H a = some (.tup xs) ∧ xs.length = i⟩
theorem meets_enumT (l : Addr) (items : Array Value) (n : Nat) (dct : Option Addr) (sl : Array (Option Value)) :
    Meets (Builtin.«enumerate.__new__» ⟨[.type "enumerate", .ref l], []⟩) (fun _ R s => s.heap.get? l = some { cls := .type "tuple", dict := dct, data := .seq items n, slots := sl } ∧
      R (.ok (.ret (.ref (s.heap.push { cls := .type "tuple_iterator", data := .fields #[.ref l, .int 0 0] }).objs.size)))
        { s with heap := (s.heap.push { cls := .type "tuple_iterator", data := .fields #[.ref l, .int 0 0] }).push { cls := .type "enumerate", data := .fields #[.none, .bool false, .ref s.heap.objs.size, rawInt 0, .none, .none] } }) :=
  .of_wp fun prog w A R s h => by
    obtain ⟨hp, g, d, tk, os⟩ := s
    obtain ⟨hl, h⟩ := h
    have hsub := sub_enumerate
    have hL : Heap.IsTuple (Shared.heap ⟨hp, g, d, tk, os⟩) l items := ⟨_, hl, rfl, n, rfl⟩
    wp_walk using wpAny_loadPart' hl
    refine wpAny_stack_any fun st => wpAny_pure ?_
    split
    · rename_i c _ _ _ _ _
      cases (c == Value.type "enumerate") <;> (wp_walk using wpAny_loadPart' hl, wpAny_pyIter_tuple hL; exact ⟨_, rfl, h⟩)
    · wp_walk using wpAny_loadPart' hl, wpAny_pyIter_tuple hL
      exact ⟨_, rfl, h⟩
theorem call_enumT {prog : Program} {w : World} {A : Around} {E : Value → Shared → Prop} {s : Shared} {l : Addr} {items : Array Value} {Q : Value → Shared → Prop} (hL : s.heap.IsTuple l items)
    (h : ∀ h', IsEnum h' (s.heap.objs.size + 1) s.heap.objs.size 0 .none → h'.IsTupleIter s.heap.objs.size l 0 → (∀ b o, s.heap.get? b = some o → h'.get? b = some o) → Q (.ref (s.heap.objs.size + 1)) { s with heap := h' }) :
    wpAny (model prog w) A (call (.type "enumerate") [.ref l]) Q E s := by
  obtain ⟨⟨c, dct, dt, sl⟩, hl, hc, n, hd⟩ := hL
  replace hc : c = .type "tuple" := hc
  replace hd : dt = .seq items n := hd
  subst hc hd
  refine callType_new F.called_enumerate (by decide) (F.typeCall_enumerate_1 _) (F.newCall_enumerate_1 _) (fun obj => F.args_object_init_2 obj _) F.entry_enumerate_new (meets_enumT l items n dct sl) ⟨hl, ?_⟩
  have hz : (s.heap.push { cls := .type "tuple_iterator", data := .fields #[.ref l, .int 0 0] }).objs.size = s.heap.objs.size + 1 := Heap.size_push ..
  show _ ∧ _
  rw [hz]
  have he : IsEnum ((s.heap.push { cls := .type "tuple_iterator", data := .fields #[.ref l, .int 0 0] }).push { cls := .type "enumerate", data := .fields #[.none, .bool false, .ref s.heap.objs.size, rawInt 0, .none, .none] }) (s.heap.objs.size + 1) s.heap.objs.size 0 .none := by
    have := Heap.get?_push_size (s.heap.push { cls := .type "tuple_iterator", data := .fields #[.ref l, .int 0 0] }) (o := { cls := .type "enumerate", data := .fields #[.none, .bool false, .ref s.heap.objs.size, rawInt 0, .none, .none] }) rfl
    rw [hz] at this
    exact this
  exact ⟨⟨_, he, rfl⟩, h _ he ⟨_, Heap.get?_push_of_some _ (Heap.get?_push_size _ rfl), rfl, rfl⟩ fun b o x => Heap.get?_push_of_some _ (Heap.get?_push_of_some _ x)⟩
theorem turn_enumT {P : Program} {w : World} {K : PySem.W.Frag} {elts : List Expr} {kk : Nat} {tpos : Pos} (a e it : Addr) :
    Turn P w K (.Tuple elts kk tpos) (IteT a) [e, it] e (fun i h => (∃ old, IsEnum h e it ((i : Nat) : Int) old) ∧ h.IsTupleIter it a i ∧ e ≠ it) where
  mem := by simp
  obj := fun i h st b hb => by
    obtain ⟨⟨old, he⟩, ⟨o, ho, hc, hd⟩, _⟩ := st
    have e' : b = e ∨ b = it := by simpa using hb
    rcases e' with rfl | rfl
    · exact ⟨_, he, fun v q => nomatch q⟩
    · exact ⟨o, ho, fun v q => by rw [hd] at q; cases q⟩
  keep := fun i h h' st k => let ⟨⟨old, he⟩, hi, hne⟩ := st; ⟨⟨old, k e (by simp) _ he⟩, hi.at fun o q => k it (by simp) o q, hne⟩
  item := by
    intro X hP hw hK hc i pins s σ H E I hf st hg
    subst hP hw hK
    obtain ⟨⟨old, he⟩, hit, hne⟩ := st
    obtain ⟨xs, x, hT, hx⟩ := hg
    obtain ⟨its, rv, p, hz⟩ := I.tuple (SqT.of (K := X.K) hT)
    obtain ⟨u, hu, ru⟩ := rv.get hx
    have hel : e < s.heap.objs.size := Heap.lt_size he
    have hil : it < s.heap.objs.size := by obtain ⟨_, q, _⟩ := hit; exact Heap.lt_size q
    have nea : a ≠ e := ne_of_none hT (hf e (by simp)).1
    have nia : a ≠ it := ne_of_none hT (hf it (by simp)).1
    have D := Draws.tuple (prog := X.prog) (w := X.w) (A := X.A.in1) (I.ok.hd hc) it a nia its.toArray
    have hi : i < its.toArray.size := by
      have := rv.length
      have := (List.getElem?_eq_some_iff.mp hx).1
      rw [List.size_toArray]
      omega
    refine wpAny_pyNext_enum_itemD D he ⟨hit, p⟩ hi hne (by simp; exact ⟨hne, nea.symm⟩) fun y h' tk hy ho st' hT' hsz hk => ?_
    have ey : y = u := by
      have h1 : its.toArray[i]? = some u := by simpa using hu
      rw [h1] at hy
      exact (Option.some.inj hy).symm
    subst ey
    refine ⟨_, rfl, wpAny_letOwnedTupleGo_enum (s := { s with heap := h', toks := tk + 1 }) ho fun h'' he' sb => ?_⟩
    have hT2 : h''.get? s.heap.objs.size = some { cls := .type "tuple", data := .seq #[.int i tk, y] } := (sb.2 _ (Nat.ne_of_gt hel)).trans hT'
    have new : ObjOk X.prog X.w (upd H s.heap.objs.size (.tup [.int (i : Nat), x])) h'' s.heap.objs.size (.tup [.int (i : Nat), x]) :=
      ⟨by show 2 ≤ sizeLine; decide, [.int i tk, y], .cons ⟨_, rfl⟩ (.cons ru .nil), ⟨_, hT2, rfl, _, rfl⟩⟩
    have I1 : Inv X pins σ (upd H s.heap.objs.size (.tup [.int (i : Nat), x])) { s with heap := h'', toks := tk + 1 } :=
      I.turnedNew (ch := [e, it]) (fun b ob hb q => (sb.2 b (fun z => hb (by simp [z]))).trans (hk b ob (fun z => hb (by simp [z])) (fun z => hb (by simp [z])) q)) hf (Nat.le_refl _) new
    refine ⟨.ref s.heap.objs.size, _, I1, rfl, ⟨_, x, rfl, I.hok.fresh (Nat.le_refl _), rfl, fun ys hy => ?_⟩, ⟨⟨y, ?_⟩, st'.1.at fun o q => (sb.2 it (Ne.symm hne)).trans q, hne⟩, fun b hb => ?_⟩
    · rw [hT] at hy
      cases hy
      exact hx
    · have e1 : ((i + 1 : Nat) : Int) = (i : Int) + 1 := by omega
      rw [e1]
      exact he'
    · have hb' : b < s.heap.objs.size := by
        have e' : b = e ∨ b = it := by simpa using hb
        rcases e' with rfl | rfl
        · exact hel
        · exact hil
      rw [upd_ne (Nat.ne_of_lt hb')]
      exact (hf b hb).1
  done := by
    intro X hP hw hK hc i pins s σ H E I hf st hg
    subst hP hw hK
    obtain ⟨⟨old, he⟩, hit, hne⟩ := st
    obtain ⟨xs, hT, hx⟩ := hg
    obtain ⟨its, rv, p, hz⟩ := I.tuple (SqT.of (K := X.K) hT)
    obtain ⟨f0, f1, f2, f3, f4, f5⟩ := hf it (by simp)
    have nia : a ≠ it := ne_of_none hT f0
    have D := Draws.tuple (prog := X.prog) (w := X.w) (A := X.A.in1) (I.ok.hd hc) it a nia its.toArray
    have hi : i = its.toArray.size := by
      have := rv.length
      rw [List.size_toArray]
      omega
    subst hi
    exact wpAny_pyNext_enum_endD D he ⟨hit, p⟩ fun h' eb => ⟨rfl, I.turned (t' := s.toks) (fun b o hb q => eb b o hb q) f0 f1 f3 f4 f5⟩
  self := fun A i s Q E st h => let ⟨⟨_, he⟩, _⟩ := st; wpAny_pyIter_enum he h
def iEnumT (ta : TA) : TI := fun σ H R => ta σ H fun vs H1 => ∃ a xs, vs = [.ref a] ∧ H1 a = some (.tup xs) ∧ R (IteT a) H1
theorem pi_enumT {X : Cx} {e : Expr} {ta : TA} {p pos tpos : Pos} {elts : List Expr} {kk : Nat} (hg : Gl X "enumerate") (hm : X.mg "enumerate" = none) (ha : PA X [e] ta) (hs : starEach [e] X.env = [(false, eval e X.env)] := by rfl) :
    PI X (.Tuple elts kk tpos) (.Call (.Name "enumerate" p) [e] [] pos) (iEnumT ta) := by
  refine ⟨fun pins s σ H R I h => ?_⟩
  refine Call_ (ld_blt I hg hm boot_enumerate (PyProof.Rows.callWith_type1 (thn (ha.run pos pins s σ H _ I h) fun us s1 ⟨vs, H1, I1, r1, q1⟩ => ?_) hs rfl))
  obtain ⟨a, xs, ex, hq, q⟩ := q1
  subst ex
  cases r1 with
  | cons r rr =>
    cases rr
    cases r
    obtain ⟨its, rv, p', hz⟩ := I1.tuple (SqT.of (K := X.K) hq)
    refine call_enumT p' fun h' he hit hk => wpAny_pyIter_enum he ?_
    have I2 : Inv X pins σ H1 { s1 with heap := h' } := I1.kept (t' := s1.toks) hk
    refine ⟨s1.heap.objs.size + 1, [s1.heap.objs.size + 1, s1.heap.objs.size], _, _, H1, rfl, I2, turn_enumT a (s1.heap.objs.size + 1) s1.heap.objs.size, ⟨⟨.none, he⟩, hit, Nat.succ_ne_self _⟩, fun b hb => ?_, q⟩
    have hle : s1.heap.objs.size ≤ b := by
      have e' : b = s1.heap.objs.size + 1 ∨ b = s1.heap.objs.size := by simpa using hb
      rcases e' with z | z
      · rw [z]; exact Nat.le_add_right _ _
      · rw [z]; exact Nat.le_refl _
    exact I1.fpOk hle (I1.hok.fresh hle)
theorem lc_enumT {a : Addr} {xs : List V} {g : TG} {tt : TT} {te : TE} {vs : List Nat} {σ : L2.St} {H1 : Hp} {D : Addr} {Qd : Hp → Prop} (Pv : Nat → Hp → Prop) (h0 : Pv 0 (upd H1 D (.lst []))) (hl : ∀ i H, i ≤ xs.length → Pv i H → H a = some (.tup xs))
    (hs : ∀ i x H T, xs[i]? = some x → Pv i H → H T = none → g (.ref T) (wipe σ vs) (upd H T (.tup [.int (i : Nat), x])) fun σ2 H2 => wipe σ2 vs = wipe σ vs ∧ tt σ2 H2 fun b H3 =>
      if b = true then te σ2 H3 fun y H4 => ∃ acc, H4 D = some (.lst acc) ∧ acc.length < sizeLine ∧ Pv (i + 1) (upd H4 D (.lst (acc ++ [y]))) else Pv (i + 1) H3) (hd : ∀ H, Pv xs.length H → Qd H) :
    ∃ W : Nat → Nat → Hp → Prop, (∃ m, W 0 m (upd H1 D (.lst []))) ∧ ∀ i m H, W i m H →
      ((IteT a).stop i H ∧ Qd H) ∨ ((IteT a).go i H ∧ ∃ Nx : Hp → Prop, (∀ H', Nx H' → ∃ m', m' < m ∧ W (i + 1) m' H') ∧ ∀ x H', (IteT a).yld i H x H' → g x (wipe σ vs) H' fun σ2 H2 => wipe σ2 vs = wipe σ vs ∧ tt σ2 H2 fun b H3 =>
        if b = true then te σ2 H3 fun y H4 => ∃ acc, H4 D = some (.lst acc) ∧ acc.length < sizeLine ∧ Nx (upd H4 D (.lst (acc ++ [y]))) else Nx H3) := by
  refine ⟨fun i m H => m = xs.length - i ∧ i ≤ xs.length ∧ Pv i H, ⟨xs.length, by simp, Nat.zero_le _, h0⟩, ?_⟩
  rintro i m H ⟨rfl, hi, p⟩
  have hT := hl i H hi p
  by_cases hlt : i < xs.length
  · refine .inr ⟨⟨xs, xs[i], hT, List.getElem?_eq_getElem hlt⟩, Pv (i + 1), fun H' p' => ⟨xs.length - (i + 1), by omega, rfl, hlt, p'⟩, fun v H' y => ?_⟩
    obtain ⟨T, x, rfl, nT, rfl, hx⟩ := y
    exact hs i x H T (hx xs hT) p nT
  · have e : xs.length = i := by omega
    subst e
    exact .inl ⟨⟨xs, hT, rfl⟩, hd H p⟩
end


/-! ### stages, paths, views -/
abbrev Sg := Int × Int × Int × Bool
def SgOk (s : Sg) : Prop := (0 ≤ s.1 ∧ s.1 < 3) ∧ (1 ≤ s.2.1 ∧ s.2.1 ≤ 3) ∧ (0 ≤ s.2.2.1 ∧ s.2.2.1 ≤ 3)
def StgV (H : Hp) (v : V) (s : Sg) : Prop := ∃ u, v = .ref u ∧ H u = some (.tup [.int s.1, .int s.2.1, .int s.2.2.1, .bl s.2.2.2])
theorem StgV.keep {H H' : Hp} (k : KeepT H H') {v : V} {s : Sg} (h : StgV H v s) : StgV H' v s := by
  obtain ⟨u, e, t⟩ := h
  exact ⟨u, e, k _ _ t⟩
def StgsV (H : Hp) (a : Addr) (ss : List Sg) : Prop := ∃ vs, H a = some (.lst vs) ∧ Paired (StgV H) vs ss
theorem StgsV.same {H H' : Hp} (s : Same H H') {a : Addr} {ss : List Sg} (h : StgsV H a ss) : StgsV H' a ss := by
  obtain ⟨vs, e, p⟩ := h
  exact ⟨vs, s _ _ e, L2.Paired.mapP p fun _ _ y => y.keep (keepT_of s)⟩
theorem pgetS {α β : Type} {R : α → β → Prop} : ∀ {xs : List α} {ys : List β} {i : Nat} {x : α}, Paired R xs ys → xs[i]? = some x → ∃ y, ys[i]? = some y ∧ R x y
  | _, _, _, _, .nil, e => by simp at e
  | _, _, 0, _, .cons r _, e => by cases e; exact ⟨_, rfl, r⟩
  | _, _, i + 1, _, .cons _ t, e => by
    rw [List.getElem?_cons_succ] at e
    obtain ⟨y, h, r⟩ := pgetS t e
    exact ⟨y, by rw [List.getElem?_cons_succ]; exact h, r⟩
theorem paired_lenS {α β : Type} {R : α → β → Prop} : ∀ {xs : List α} {ys : List β}, Paired R xs ys → xs.length = ys.length
  | _, _, .nil => rfl
  | _, _, .cons _ t => by rw [List.length_cons, List.length_cons, paired_lenS t]
theorem paired_snocS {α β : Type} {R : α → β → Prop} : ∀ {xs : List α} {ys : List β} {x : α} {y : β}, Paired R xs ys → R x y → Paired R (xs ++ [x]) (ys ++ [y])
  | _, _, _, _, .nil, r => .cons r .nil
  | _, _, _, _, .cons r t, r' => .cons r (paired_snocS t r')
theorem ss_get {H : Hp} {vs : List V} {ss : List Sg} (p : Paired (StgV H) vs ss) {k : Nat} (h : k < ss.length) : ∃ u s, vs[k]? = some (.ref u) ∧ ss[k]? = some s ∧ H u = some (.tup [.int s.1, .int s.2.1, .int s.2.2.1, .bl s.2.2.2]) := by
  have hl := paired_lenS p
  have gv : vs[k]? = some vs[k] := List.getElem?_eq_getElem (by omega)
  obtain ⟨s, hs, u, e, hu⟩ := pgetS p gv
  rw [e] at gv
  exact ⟨u, s, gv, hs, hu⟩
theorem noneB {H H' : Hp} (s : Same H H') {a : Addr} (h : H' a = none) : H a = none := by
  cases e : H a with
  | none => rfl
  | some o => rw [s _ _ e] at h; cases h
/-- the list of a path -/
def pthL (p : List Nat) : List V := p.map fun (k : Nat) => V.int (k : Int)
def PthV (H : Hp) (v : V) (p : List Nat) : Prop := ∃ a, v = .ref a ∧ H a = some (.lst (pthL p))
theorem PthV.same {H H' : Hp} (s : Same H H') {v : V} {p : List Nat} (h : PthV H v p) : PthV H' v p := by
  obtain ⟨a, e, t⟩ := h
  exact ⟨a, e, s _ _ t⟩
def PthN (L : Addr) (H : Hp) (v : V) (p : List Nat) : Prop := ∃ a, v = .ref a ∧ a ≠ L ∧ H a = some (.lst (pthL p))
theorem PthN.toV {L : Addr} {H : Hp} {v : V} {p : List Nat} (h : PthN L H v p) : PthV H v p := by
  obtain ⟨a, e, _, t⟩ := h
  exact ⟨a, e, t⟩
theorem PthN.but {L : Addr} {H H' : Hp} (s : ∀ b o, b ≠ L → H b = some o → H' b = some o) {v : V} {p : List Nat} (h : PthN L H v p) : PthN L H' v p := by
  obtain ⟨a, e, n, t⟩ := h
  exact ⟨a, e, n, s _ _ n t⟩
def ext1 (p : List Nat) (n : Nat) : List (List Nat) := (List.range n).map fun k => p ++ [k]
def ext (ps : List (List Nat)) (n : Nat) : List (List Nat) := ps.flatMap fun p => ext1 p n
def pathsOf (ss : List Sg) : List (List Nat) := ss.foldl (fun ps s => ext ps s.2.1.toNat) [[]]
theorem pathsOf_snoc (ss : List Sg) (s : Sg) : pathsOf (ss ++ [s]) = ext (pathsOf ss) s.2.1.toNat := by
  unfold pathsOf
  rw [List.foldl_append]
  rfl
theorem ext_len {ps : List (List Nat)} {n : Nat} : (ext ps n).length = n * ps.length := by
  unfold ext
  induction ps with
  | nil => simp
  | cons p r ih =>
    rw [List.flatMap_cons, List.length_append, ih, List.length_cons, Nat.mul_succ]
    unfold ext1
    rw [List.length_map, List.length_range]
    omega
theorem ext_snoc (ps : List (List Nat)) (p : List Nat) (n : Nat) : ext (ps ++ [p]) n = ext ps n ++ ext1 p n := by
  unfold ext
  rw [List.flatMap_append]
  simp
theorem ext1_succ (p : List Nat) (n : Nat) : ext1 p (n + 1) = ext1 p n ++ [p ++ [n]] := by
  unfold ext1
  rw [List.range_succ, List.map_append]
  rfl
/-- the paths of the first i stages: how many, how long -/
theorem paths_len : ∀ (i : Nat) {ss : List Sg}, (∀ s ∈ ss, SgOk s) → i ≤ ss.length → (pathsOf (ss.take i)).length ≤ 3 ^ i ∧ ∀ p ∈ pathsOf (ss.take i), p.length = i
  | 0, ss, _, _ => ⟨Nat.le_refl _, fun p m => by rw [List.take_zero] at m; rw [List.mem_singleton.mp m]; rfl⟩
  | i + 1, ss, h, hi => by
    obtain ⟨l, q⟩ := paths_len i h (by omega)
    have e : ss[i]? = some ss[i] := List.getElem?_eq_getElem (by omega)
    have ok := h ss[i] (List.getElem_mem _)
    have e2 : pathsOf (ss.take (i + 1)) = ext (pathsOf (ss.take i)) ss[i].2.1.toNat := by
      rw [List.take_add_one, e]
      exact pathsOf_snoc _ _
    rw [e2]
    refine ⟨?_, fun p m => ?_⟩
    · rw [ext_len, Nat.pow_succ, Nat.mul_comm]
      refine Nat.mul_le_mul l ?_
      have := ok.2.1.2
      omega
    · obtain ⟨p0, m0, m1⟩ := List.mem_flatMap.mp m
      obtain ⟨k, _, rfl⟩ := List.mem_map.mp m1
      rw [List.length_append, q p0 m0]
      rfl
def nums (ss : List Sg) (k : Nat) : Nat := ((ss.take k).filter fun s => decide (s.1 ≠ 0)).length
def nth (ss : List Sg) (k : Nat) : Sg := ss.getD k (0, 1, 0, false)
def evMove (n : Nat) (z : Int) : PyData := .tuple [.str "move", .int ((n : Nat) : Int), .int z]
def evTold (k : Nat) : PyData := .tuple [.str "told", .int ((k : Nat) : Int)]
def evRound (k : Nat) : PyData := .tuple [.str "round", .int ((k : Nat) : Int)]
/-- how many rounds end ahead of the k-th stage -/
def rn (ss : List Sg) (k : Nat) : Nat := (((ss.take k).drop 1).filter fun s => s.2.2.2).length
def rndOf (ss : List Sg) (k : Nat) : List PyData := if 0 < k ∧ (nth ss k).2.2.2 = true then [evRound (rn ss (k + 1))] else []
def evsOf (s : Sg) (k n : Nat) (pl : Int) : List PyData := (if s.1 = pl then [evMove n s.2.1, evDid ((k : Nat) : Int)] else []) ++ (if s.2.2.1 = pl ∨ s.2.2.1 = 3 then [evTold k] else [])
def viewN (ss : List Sg) (p : List Nat) (pl : Int) : Nat → List PyData
  | 0 => [evRound 0]
  | k + 1 => viewN ss p pl k ++ (rndOf ss k ++ evsOf (nth ss k) (p.getD k 0) (nums ss k) pl)
def asked (ss : List Sg) (p : List Nat) : List PyData := viewN ss p (nth ss p.length).1 p.length ++ rndOf ss p.length ++ [evMove (nums ss p.length) (nth ss p.length).2.1]
theorem evs_len (s : Sg) (k n : Nat) (pl : Int) : (evsOf s k n pl).length ≤ 3 := by
  unfold evsOf
  split <;> split <;> simp
theorem rnd_len (ss : List Sg) (k : Nat) : (rndOf ss k).length ≤ 1 := by
  unfold rndOf
  split <;> simp
theorem view_len (ss : List Sg) (p : List Nat) (pl : Int) : ∀ k, (viewN ss p pl k).length ≤ 1 + 4 * k
  | 0 => by show 1 ≤ _; omega
  | k + 1 => by
    have := view_len ss p pl k
    have := evs_len (nth ss k) (p.getD k 0) (nums ss k) pl
    have := rnd_len ss k
    show (viewN ss p pl k ++ (_ ++ _)).length ≤ _
    rw [List.length_append, List.length_append]
    omega
theorem ev_move (n : Nat) (z : Int) : Ev (evMove n z) := ev_of "move" (by decide +kernel) [((n : Nat) : Int), z] (by decide +kernel) (by show 2 ≤ 100; decide)
theorem ev_told (k : Nat) : Ev (evTold k) := ev_of "told" (by decide +kernel) [((k : Nat) : Int)] (by decide +kernel) (by show 1 ≤ 100; decide)
theorem ev_round (k : Nat) : Ev (evRound k) := ev_of "round" (by decide +kernel) [((k : Nat) : Int)] (by decide +kernel) (by show 1 ≤ 100; decide)
theorem rnd_ev (ss : List Sg) (k : Nat) : ∀ d ∈ rndOf ss k, Ev d := fun d m => by
  unfold rndOf at m
  split at m
  · rw [List.mem_singleton.mp m]
    exact ev_round _
  · cases m
theorem evs_ev (s : Sg) (k n : Nat) (pl : Int) : ∀ d ∈ evsOf s k n pl, Ev d := fun d m => by
  unfold evsOf at m
  rcases List.mem_append.mp m with m | m
  · split at m
    · rcases List.mem_cons.mp m with rfl | m
      · exact ev_move _ _
      · rw [List.mem_singleton.mp m]
        exact ev_did _
    · cases m
  · split at m
    · rw [List.mem_singleton.mp m]
      exact ev_told _
    · cases m
theorem view_ev (ss : List Sg) (p : List Nat) (pl : Int) : ∀ k, ∀ d ∈ viewN ss p pl k, Ev d
  | 0, d, m => by
    rw [List.mem_singleton.mp m]
    exact ev_round 0
  | k + 1, d, m => (List.mem_append.mp m).elim (view_ev ss p pl k d) fun m => (List.mem_append.mp m).elim (rnd_ev ss k d) (evs_ev _ _ _ _ d)
theorem asked_ev (ss : List Sg) (p : List Nat) : ∀ d ∈ asked ss p, Ev d := fun d m => (List.mem_append.mp m).elim (fun m => (List.mem_append.mp m).elim (view_ev ss p _ _ d) (rnd_ev ss _ d)) fun m => by
  rw [List.mem_singleton.mp m]
  exact ev_move _ _
theorem asked_len (ss : List Sg) (p : List Nat) : (asked ss p).length ≤ 3 + 4 * p.length := by
  unfold asked
  have := view_len ss p (nth ss p.length).1 p.length
  have := rnd_len ss p.length
  rw [List.length_append, List.length_append]
  show _ + 1 ≤ _
  omega
theorem nums_le (ss : List Sg) (k : Nat) : nums ss k ≤ k := by
  unfold nums
  refine Nat.le_trans (List.length_filter_le _ _) ?_
  rw [List.length_take]
  omega
theorem nums_succ {ss : List Sg} {k : Nat} {s : Sg} (h : ss[k]? = some s) : nums ss (k + 1) = nums ss k + if s.1 = 0 then 0 else 1 := by
  unfold nums
  rw [List.take_add_one, h, List.filter_append, List.length_append]
  show _ + (List.filter (fun s => decide (s.1 ≠ 0)) [s]).length = _
  by_cases z : s.1 = 0
  · rw [List.filter_cons_of_neg (by simpa using z), if_pos z]
    rfl
  · rw [List.filter_cons_of_pos (by simpa using z), if_neg z]
    rfl
theorem rn_le (ss : List Sg) (k : Nat) : rn ss k ≤ k := by
  unfold rn
  refine Nat.le_trans (List.length_filter_le _ _) ?_
  rw [List.length_drop, List.length_take]
  omega
theorem rn_succ {ss : List Sg} {k : Nat} {s : Sg} (h : ss[k]? = some s) (hk : 0 < k) : rn ss (k + 1) = rn ss k + if s.2.2.2 = true then 1 else 0 := by
  unfold rn
  have hl := (List.getElem?_eq_some_iff.mp h).1
  rw [List.take_add_one, h, List.drop_append_of_le_length (by rw [List.length_take]; omega), List.filter_append, List.length_append]
  show _ + (List.filter (fun s => s.2.2.2) [s]).length = _
  by_cases z : s.2.2.2 = true
  · rw [List.filter_cons_of_pos (by simpa using z), if_pos z]
    rfl
  · rw [List.filter_cons_of_neg (by simpa using z), if_neg z]
    rfl
theorem rn_one (ss : List Sg) : rn ss 1 = 0 := by
  unfold rn
  cases ss <;> rfl
theorem nth_at {ss : List Sg} {k : Nat} {s : Sg} (h : ss[k]? = some s) : nth ss k = s := by
  unfold nth
  rw [List.getD_eq_getElem?_getD, h]
  rfl
/-- view + events -/
theorem cat_evs {K : PySem.W.Frag} {H : Hp} {v u : Addr} {xs us : List V} {ds es : List PyData} {Q : VK} (hv : H v = some (.tup xs)) (hA : ImAll H xs ds) (hu : H u = some (.tup us)) (hE : ImAll H us es) (hz : xs.length + us.length ≤ 900)
    (k : ∀ (p : Addr) (H' : Hp), Same H H' → Im H' (.ref p) (.tuple (ds ++ es)) → Q (.ref p) H') : rCatA K (.ref v) (.ref u) H Q := by
  refine ⟨v, u, xs, us, rfl, rfl, SqT.of hv, SqT.of hu, small_le (by omega), fun z => ?_, fun _ z => ?_, fun _ _ p hp => ?_⟩
  · subst z
    cases hA
    exact k u H (Same.refl H) (.tup hu hE)
  · subst z
    cases hE
    exact k v H (Same.refl H) (by rw [List.append_nil]; exact .tup hv hA)
  · exact k p _ (same_upd hp) (.tup upd_same ((hA.append hE).keep (keepT_of (same_upd hp))))

/-! ### trees that remember -/
mutual
/-- data of numbers, texts and tuples -/
def plD : PyData → Bool
  | .none => true
  | .int _ => true
  | .str _ => true
  | .tuple xs => plAll xs
  | .bool _ => false
  | .list _ => false
  | .dict _ => false
def plAll : List PyData → Bool
  | [] => true
  | x :: r => plD x && plAll r
end
theorem eqvAll_nn : PyData.eqvAll [] [] = true := by simp [PyData.eqvAll]
mutual
theorem eqv_pl : ∀ {d e : PyData}, plD d = true → plD e = true → PyData.eqv d e = true → d = e
  | .none, .none, _, _, _ => rfl
  | .int i, .int j, _, _, h => by simp [PyData.eqv] at h; rw [h]
  | .str x, .str y, _, _, h => by simp [PyData.eqv] at h; rw [h]
  | .tuple xs, .tuple ys, p, q, h => by
    simp only [plD] at p q
    simp only [PyData.eqv] at h
    rw [eqvAll_pl p q h]
  | .none, .int _, _, _, h => by simp [PyData.eqv] at h
  | .none, .str _, _, _, h => by simp [PyData.eqv] at h
  | .none, .tuple _, _, _, h => by simp [PyData.eqv] at h
  | .int _, .none, _, _, h => by simp [PyData.eqv] at h
  | .int _, .str _, _, _, h => by simp [PyData.eqv] at h
  | .int _, .tuple _, _, _, h => by simp [PyData.eqv] at h
  | .str _, .none, _, _, h => by simp [PyData.eqv] at h
  | .str _, .int _, _, _, h => by simp [PyData.eqv] at h
  | .str _, .tuple _, _, _, h => by simp [PyData.eqv] at h
  | .tuple _, .none, _, _, h => by simp [PyData.eqv] at h
  | .tuple _, .int _, _, _, h => by simp [PyData.eqv] at h
  | .tuple _, .str _, _, _, h => by simp [PyData.eqv] at h
  | .bool _, _, p, _, _ => by simp [plD] at p
  | .list _, _, p, _, _ => by simp [plD] at p
  | .dict _, _, p, _, _ => by simp [plD] at p
  | .none, .bool _, _, q, _ => by simp [plD] at q
  | .none, .list _, _, q, _ => by simp [plD] at q
  | .none, .dict _, _, q, _ => by simp [plD] at q
  | .int _, .bool _, _, q, _ => by simp [plD] at q
  | .int _, .list _, _, q, _ => by simp [plD] at q
  | .int _, .dict _, _, q, _ => by simp [plD] at q
  | .str _, .bool _, _, q, _ => by simp [plD] at q
  | .str _, .list _, _, q, _ => by simp [plD] at q
  | .str _, .dict _, _, q, _ => by simp [plD] at q
  | .tuple _, .bool _, _, q, _ => by simp [plD] at q
  | .tuple _, .list _, _, q, _ => by simp [plD] at q
  | .tuple _, .dict _, _, q, _ => by simp [plD] at q
theorem eqvAll_pl : ∀ {xs ys : List PyData}, plAll xs = true → plAll ys = true → PyData.eqvAll xs ys = true → xs = ys
  | [], [], _, _, _ => rfl
  | x :: xs, y :: ys, p, q, h => by
    simp only [plAll, Bool.and_eq_true] at p q
    simp only [PyData.eqvAll, Bool.and_eq_true] at h
    rw [eqv_pl p.1 q.1 h.1, eqvAll_pl p.2 q.2 h.2]
  | [], _ :: _, _, _, h => by simp [PyData.eqvAll] at h
  | _ :: _, [], _, _, h => by simp [PyData.eqvAll] at h
end
theorem plAll_mem {xs : List PyData} : plAll xs = true ↔ ∀ d ∈ xs, plD d = true := by
  induction xs with
  | nil => exact ⟨fun _ _ m => (by cases m), fun _ => by simp [plAll]⟩
  | cons x r ih =>
    simp only [plAll, Bool.and_eq_true, ih]
    exact ⟨fun h d m => (List.mem_cons.mp m).elim (fun e => e ▸ h.1) (h.2 d), fun h => ⟨h x List.mem_cons_self, fun d m => h d (List.mem_cons_of_mem _ m)⟩⟩
/-- events that can be told from each other -/
def EvP (d : PyData) : Prop := Ev d ∧ plD d = true
abbrev Row := List PyData × Int
def rowD : Option Row → PyData
  | none => .none
  | some r => row r.1 r.2
theorem rowD_pl {r : Option Row} (h : ∀ v k, r = some (v, k) → ∀ d ∈ v, EvP d) : plD (rowD r) = true := by
  cases r with
  | none => simp [rowD, plD]
  | some r =>
    obtain ⟨v, k⟩ := r
    have : plAll v = true := plAll_mem.mpr fun d m => (h v k rfl d m).2
    simp [rowD, row, plD, plAll, this]
theorem rowD_inj {a b : Option Row} (h : rowD a = rowD b) : a = b := by
  cases a with
  | none =>
    cases b with
    | none => rfl
    | some b => cases h
  | some a =>
    cases b with
    | none => cases h
    | some b =>
      obtain ⟨v, k⟩ := a
      obtain ⟨w, l⟩ := b
      unfold rowD row at h
      injection h with h
      injection h with h1 h2
      injection h1 with h1
      injection h2 with h2
      injection h2 with h2
      subst h1 h2
      rfl
theorem lastRow_evp {ds pre : List PyData} {k : Int} (h : lastRow ds = some (pre, k)) (e : ∀ d ∈ ds, EvP d) : ∀ d ∈ pre, EvP d := fun d m => by
  rw [lastRow_take h] at m
  exact e d (List.mem_of_mem_take m)
theorem rowD_lay {r : Option Row} (h : ∀ v k, r = some (v, k) → (∀ d ∈ v, EvP d) ∧ v.length ≤ 900) : Lay 3 (rowD r) := by
  cases r with
  | none => exact lay_none.mono (by omega)
  | some r =>
    obtain ⟨v, k⟩ := r
    obtain ⟨h1, h2⟩ := h v k rfl
    refine lay_tuple (n := 2) (by show 2 ≤ 1000000; decide) fun d m => ?_
    rcases List.mem_cons.mp m with rfl | m
    · exact lay_tuple (n := 1) (by show v.length ≤ 1000000; omega) fun d m => (h1 d m).1.1
    · rw [List.mem_singleton.mp m]
      exact (lay_int k).mono (by omega)
inductive Tr where
  | fin
  | lot (ts : List Tr)
  | turn (pl : Int) (v : List PyData) (ts : List Tr)
mutual
def Tr.rem : Tr → Option Row → Option Row → Prop
  | .fin, _, _ => True
  | .lot ts, a, b => remL ts a b
  | .turn pl v ts, a, b => lastRow v = (if pl = 1 then a else b) ∧ remT ts pl v 0 a b
def remL : List Tr → Option Row → Option Row → Prop
  | [], _, _ => True
  | t :: r, a, b => t.rem a b ∧ remL r a b
def remT : List Tr → Int → List PyData → Nat → Option Row → Option Row → Prop
  | [], _, _, _, _, _ => True
  | t :: r, pl, v, i, a, b => t.rem (if pl = 1 then some (v, (i : Int)) else a) (if pl = 1 then b else some (v, (i : Int))) ∧ remT r pl v (i + 1) a b
end
theorem remL_iff : ∀ {ts : List Tr} {a b : Option Row}, remL ts a b ↔ ∀ t ∈ ts, t.rem a b
  | [], _, _ => ⟨fun _ _ m => (by cases m), fun _ => trivial⟩
  | t :: r, a, b => by
    show t.rem a b ∧ remL r a b ↔ _
    rw [remL_iff]
    exact ⟨fun h x m => (List.mem_cons.mp m).elim (fun e => e ▸ h.1) (h.2 x), fun h => ⟨h t List.mem_cons_self, fun x m => h x (List.mem_cons_of_mem _ m)⟩⟩
theorem remT_iff : ∀ {ts : List Tr} {pl : Int} {v : List PyData} {i : Nat} {a b : Option Row}, remT ts pl v i a b ↔ ∀ (j : Nat) (t : Tr), ts[j]? = some t → t.rem (if pl = 1 then some (v, ((i + j : Nat) : Int)) else a) (if pl = 1 then b else some (v, ((i + j : Nat) : Int)))
  | [], _, _, _, _, _ => ⟨fun _ j t e => (by simp at e), fun _ => trivial⟩
  | t :: r, pl, v, i, a, b => by
    show t.rem _ _ ∧ remT r pl v (i + 1) a b ↔ _
    rw [remT_iff]
    constructor
    · rintro ⟨h1, h2⟩ j x e
      cases j with
      | zero => cases e; exact h1
      | succ j =>
        have := h2 j x (by rw [List.getElem?_cons_succ] at e; exact e)
        rw [show i + 1 + j = i + (j + 1) by omega] at this
        exact this
    · intro h
      refine ⟨h 0 t rfl, fun j x e => ?_⟩
      have := h (j + 1) x (by rw [List.getElem?_cons_succ]; exact e)
      rw [show i + 1 + j = i + (j + 1) by omega]
      exact this
/-- the tree behind a path, n stages before its ends; sn: what is seen at a turn -/
def chg (ss : List Sg) (sn : List Nat → List PyData) : Nat → List Nat → Tr
  | 0, _ => .fin
  | n + 1, p => if (nth ss p.length).1 = 0 then .lot ((List.range (nth ss p.length).2.1.toNat).map fun k => chg ss sn n (p ++ [k]))
    else .turn (nth ss p.length).1 (sn p) ((List.range (nth ss p.length).2.1.toNat).map fun k => chg ss sn n (p ++ [k]))
/-- along a whole path, from stage k on -/
def keepF (ss : List Sg) (sn : List Nat → List PyData) (q : List Nat) : Nat → Nat → Option Row → Option Row → Prop
  | 0, _, _, _ => True
  | n + 1, k, a, b => if (nth ss k).1 = 0 then keepF ss sn q n (k + 1) a b
    else lastRow (sn (q.take k)) = (if (nth ss k).1 = 1 then a else b) ∧
      keepF ss sn q n (k + 1) (if (nth ss k).1 = 1 then some (sn (q.take k), ((q.getD k 0 : Nat) : Int)) else a) (if (nth ss k).1 = 1 then b else some (sn (q.take k), ((q.getD k 0 : Nat) : Int)))
def GoodQ (ss : List Sg) (q : List Nat) : Prop := q.length = ss.length ∧ ∀ j, j < ss.length → q.getD j 0 < (nth ss j).2.1.toNat
theorem nth_ok {ss : List Sg} (h : ∀ s ∈ ss, SgOk s) {j : Nat} (hj : j < ss.length) : SgOk (nth ss j) := by
  rw [nth_at (List.getElem?_eq_getElem hj)]
  exact h _ (List.getElem_mem _)
theorem take_succ_getD {q : List Nat} {k : Nat} (h : k < q.length) : q.take (k + 1) = q.take k ++ [q.getD k 0] := by
  rw [List.take_add_one, List.getElem?_eq_getElem h, List.getD_eq_getElem?_getD, List.getElem?_eq_getElem h]
  rfl
theorem rem_iff {ss : List Sg} {sn : List Nat → List PyData} (hok : ∀ s ∈ ss, SgOk s) : ∀ (n : Nat) (p : List Nat) (a b : Option Row), p.length + n = ss.length → (∀ j, j < p.length → p.getD j 0 < (nth ss j).2.1.toNat) →
    ((chg ss sn n p).rem a b ↔ ∀ q, GoodQ ss q → q.take p.length = p → keepF ss sn q n p.length a b)
  | 0, p, a, b, _, _ => ⟨fun _ _ _ _ => trivial, fun _ => trivial⟩
  | n + 1, p, a, b, hl, hp => by
    have ok := nth_ok hok (show p.length < ss.length by omega)
    have next : ∀ (a b : Nat → Option Row), (∀ k, k < (nth ss p.length).2.1.toNat → (chg ss sn n (p ++ [k])).rem (a k) (b k)) ↔ ∀ q, GoodQ ss q → q.take p.length = p → keepF ss sn q n (p.length + 1) (a (q.getD p.length 0)) (b (q.getD p.length 0)) := fun a b => by
      have ih : ∀ k, k < (nth ss p.length).2.1.toNat → _ := fun k hk => rem_iff (sn := sn) hok n (p ++ [k]) (a k) (b k) (by rw [List.length_append]; show p.length + 1 + n = _; omega) (fun j hj => by
        rw [List.length_append] at hj
        have hj : j < p.length + 1 := hj
        rw [List.getD_eq_getElem?_getD]
        by_cases z : j < p.length
        · rw [List.getElem?_append_left z, ← List.getD_eq_getElem?_getD]
          exact hp j z
        · have : j = p.length := by omega
          subst this
          rw [List.getElem?_append_right (Nat.le_refl _), Nat.sub_self]
          exact hk)
      constructor
      · intro h q gq tq
        have hk := gq.2 p.length (by omega)
        have := (ih _ hk).mp (h _ hk) q gq (by
          rw [List.length_append]
          show q.take (p.length + 1) = _
          rw [take_succ_getD (by rw [gq.1]; omega), tq])
        rw [List.length_append] at this
        exact this
      · intro h k hk
        refine (ih k hk).mpr fun q gq tq => ?_
        rw [List.length_append] at tq ⊢
        have tq : q.take (p.length + 1) = p ++ [k] := tq
        rw [take_succ_getD (by rw [gq.1]; omega)] at tq
        obtain ⟨t1, t2⟩ := List.append_inj' tq rfl
        have e : q.getD p.length 0 = k := (List.cons.inj t2).1
        have := h q gq t1
        rw [e] at this
        exact this
    have kids : ∀ {P : Nat → Tr → Prop}, (∀ (j : Nat) (t : Tr), ((List.range (nth ss p.length).2.1.toNat).map fun k => chg ss sn n (p ++ [k]))[j]? = some t → P j t) ↔ ∀ k, k < (nth ss p.length).2.1.toNat → P k (chg ss sn n (p ++ [k])) := fun {P} => by
      constructor
      · intro h k hk
        refine h k _ ?_
        rw [List.getElem?_map, List.getElem?_range hk]
        rfl
      · intro h j t e
        rw [List.getElem?_map] at e
        by_cases z : j < (nth ss p.length).2.1.toNat
        · rw [List.getElem?_range z] at e
          cases e
          exact h j z
        · rw [List.getElem?_eq_none (by rw [List.length_range]; omega)] at e
          cases e
    have one : ∃ q, GoodQ ss q ∧ q.take p.length = p := by
      refine ⟨p ++ List.replicate (n + 1) 0, ⟨by rw [List.length_append, List.length_replicate]; exact hl, fun j hj => ?_⟩, by rw [List.take_append_of_le_length (Nat.le_refl _), List.take_length]⟩
      rw [List.getD_eq_getElem?_getD]
      by_cases z : j < p.length
      · rw [List.getElem?_append_left z, ← List.getD_eq_getElem?_getD]
        exact hp j z
      · rw [List.getElem?_append_right (by omega), List.getElem?_replicate, if_pos (by omega)]
        have := (nth_ok hok hj).2.1.1
        show 0 < _
        omega
    unfold chg keepF
    by_cases z : (nth ss p.length).1 = 0
    · rw [if_pos z]
      simp only [if_pos z]
      show remL _ a b ↔ _
      rw [remL_iff, ← next (fun _ => a) (fun _ => b), ← kids (P := fun _ t => t.rem a b)]
      exact ⟨fun h j t e => h t (List.mem_of_getElem? e), fun h t m => by
        obtain ⟨j, e⟩ := List.getElem?_of_mem m
        exact h j t e⟩
    · rw [if_neg z]
      simp only [if_neg z]
      show lastRow (sn p) = _ ∧ remT _ _ _ 0 a b ↔ _
      rw [remT_iff, kids (P := fun j t => t.rem (if (nth ss p.length).1 = 1 then some (sn p, ((0 + j : Nat) : Int)) else a) (if (nth ss p.length).1 = 1 then b else some (sn p, ((0 + j : Nat) : Int)))), next (fun j => if (nth ss p.length).1 = 1 then some (sn p, ((0 + j : Nat) : Int)) else a) (fun j => if (nth ss p.length).1 = 1 then b else some (sn p, ((0 + j : Nat) : Int)))]
      constructor
      · rintro ⟨h1, h2⟩ q gq tq
        have := h2 q gq tq
        rw [Nat.zero_add] at this
        rw [tq]
        exact ⟨h1, this⟩
      · intro h
        obtain ⟨q0, g0, t0⟩ := one
        refine ⟨?_, fun q gq tq => ?_⟩
        · have := (h q0 g0 t0).1
          rw [t0] at this
          exact this
        · have := (h q gq tq).2
          rw [tq] at this
          rw [Nat.zero_add]
          exact this
theorem mem_paths : ∀ (i : Nat) {ss : List Sg}, i ≤ ss.length → ∀ q, q ∈ pathsOf (ss.take i) ↔ q.length = i ∧ ∀ j, j < i → q.getD j 0 < (nth ss j).2.1.toNat
  | 0, ss, _, q => by
    rw [List.take_zero]
    show q ∈ [[]] ↔ _
    rw [List.mem_singleton]
    exact ⟨fun e => e ▸ ⟨rfl, fun _ h => absurd h (Nat.not_lt_zero _)⟩, fun h => List.eq_nil_of_length_eq_zero h.1⟩
  | i + 1, ss, hi, q => by
    have e : ss[i]? = some ss[i] := List.getElem?_eq_getElem (by omega)
    have e2 : pathsOf (ss.take (i + 1)) = ext (pathsOf (ss.take i)) ss[i].2.1.toNat := by
      rw [List.take_add_one, e]
      exact pathsOf_snoc _ _
    have hn := nth_at e
    rw [e2]
    unfold ext ext1
    rw [List.mem_flatMap]
    constructor
    · rintro ⟨p, mp, mq⟩
      obtain ⟨k, mk, rfl⟩ := List.mem_map.mp mq
      obtain ⟨l, h⟩ := (mem_paths i (by omega) p).mp mp
      have mk := List.mem_range.mp mk
      refine ⟨by rw [List.length_append, l]; rfl, fun j hj => ?_⟩
      rw [List.getD_eq_getElem?_getD]
      by_cases z : j < i
      · rw [List.getElem?_append_left (by omega), ← List.getD_eq_getElem?_getD]
        exact h j z
      · have : j = i := by omega
        subst this
        rw [List.getElem?_append_right (by omega), l, Nat.sub_self, hn]
        exact mk
    · rintro ⟨l, h⟩
      refine ⟨q.take i, (mem_paths i (by omega) _).mpr ⟨by rw [List.length_take]; omega, fun j hj => ?_⟩, List.mem_map.mpr ⟨q.getD i 0, List.mem_range.mpr (by rw [← hn]; exact h i (by omega)), ?_⟩⟩
      · rw [List.getD_eq_getElem?_getD, List.getElem?_take, if_pos hj, ← List.getD_eq_getElem?_getD]
        exact h j (by omega)
      · rw [← take_succ_getD (by omega), ← l, List.take_length]
theorem good_paths {ss : List Sg} (q : List Nat) : q ∈ pathsOf ss ↔ GoodQ ss q := by
  have := mem_paths ss.length (ss := ss) (Nat.le_refl _) q
  rw [List.take_length] at this
  exact this
/-- what a law asks of all paths -/
def Keeps (ss : List Sg) (sn : List Nat → List PyData) : Prop := ∀ q ∈ pathsOf ss, keepF ss sn q ss.length 0 none none
theorem rem_keeps {ss : List Sg} {sn : List Nat → List PyData} (hok : ∀ s ∈ ss, SgOk s) : (chg ss sn ss.length []).rem none none ↔ Keeps ss sn := by
  rw [rem_iff hok ss.length [] none none (Nat.zero_add _) fun j hj => absurd hj (Nat.not_lt_zero _)]
  exact ⟨fun h q m => h q ((good_paths q).mp m) rfl, fun h q g _ => h q ((good_paths q).mpr g)⟩
/-! #### a game's own views -/
theorem view_take {ss : List Sg} {p q : List Nat} {pl : Int} : ∀ k, (∀ j, j < k → p.getD j 0 = q.getD j 0) → viewN ss p pl k = viewN ss q pl k
  | 0, _ => rfl
  | k + 1, h => by
    show viewN ss p pl k ++ (rndOf ss k ++ evsOf _ (p.getD k 0) _ _) = viewN ss q pl k ++ (rndOf ss k ++ evsOf _ (q.getD k 0) _ _)
    rw [view_take k fun j hj => h j (by omega), h k (by omega)]
theorem lastRow_none : ∀ (es : List PyData), (∀ e ∈ es, didOf e = none) → ∀ ds, lastRow (ds ++ es) = lastRow ds
  | [], _, ds => by rw [List.append_nil]
  | e :: r, h, ds => by
    rw [show ds ++ e :: r = (ds ++ [e]) ++ r by simp, lastRow_none r (fun x m => h x (List.mem_cons_of_mem _ m)), lastRow_snoc_none _ _ (h e List.mem_cons_self)]
theorem rnd_none (ss : List Sg) (k : Nat) : ∀ e ∈ rndOf ss k, didOf e = none := fun e m => by
  unfold rndOf at m
  split at m
  · rw [List.mem_singleton.mp m]
    exact didOf_ne (by decide +kernel)
  · cases m
theorem own_keeps {ss : List Sg} (hok : ∀ s ∈ ss, SgOk s) (q : List Nat) (gq : GoodQ ss q) : ∀ (n k : Nat), k + n = ss.length → keepF ss (asked ss) q n k (lastRow (viewN ss q 1 k)) (lastRow (viewN ss q 2 k))
  | 0, _, _ => trivial
  | n + 1, k, hk => by
    have ok := nth_ok hok (show k < ss.length by omega)
    have ih := own_keeps hok q gq n (k + 1) (by omega)
    have tl : (q.take k).length = k := by rw [List.length_take, gq.1]; omega
    have ea : asked ss (q.take k) = (viewN ss q (nth ss k).1 k ++ rndOf ss k) ++ [evMove (nums ss k) (nth ss k).2.1] := by
      unfold asked
      rw [tl, view_take (p := q.take k) (q := q) k fun j hj => by
        rw [List.getD_eq_getElem?_getD, List.getElem?_take, if_pos hj, ← List.getD_eq_getElem?_getD]]
    have no : ∀ pl : Int, (nth ss k).1 ≠ pl → lastRow (viewN ss q pl (k + 1)) = lastRow (viewN ss q pl k) := fun pl h => by
      show lastRow (viewN ss q pl k ++ (rndOf ss k ++ evsOf _ _ _ pl)) = _
      refine lastRow_none _ (fun e m => ?_) _
      rcases List.mem_append.mp m with m | m
      · exact rnd_none ss k e m
      · unfold evsOf at m
        rw [if_neg h] at m
        split at m
        · rw [List.mem_singleton.mp m]
          exact didOf_ne (by decide +kernel)
        · cases m
    have yes : lastRow (viewN ss q (nth ss k).1 (k + 1)) = some (asked ss (q.take k), ((q.getD k 0 : Nat) : Int)) := by
      have e : viewN ss q (nth ss k).1 (k + 1) = (asked ss (q.take k) ++ [evDid ((q.getD k 0 : Nat) : Int)]) ++ (if (nth ss k).2.2.1 = (nth ss k).1 ∨ (nth ss k).2.2.1 = 3 then [evTold (q.getD k 0)] else []) := by
        rw [ea]
        show viewN ss q (nth ss k).1 k ++ (rndOf ss k ++ evsOf _ _ _ _) = _
        unfold evsOf
        rw [if_pos rfl]
        simp only [List.append_assoc, List.cons_append, List.nil_append]
      rw [e, lastRow_none _ (fun e m => by
        split at m
        · rw [List.mem_singleton.mp m]
          exact didOf_ne (by decide +kernel)
        · cases m), lastRow_snoc_some _ _ _ (didOf_did _)]
    have ask : lastRow (asked ss (q.take k)) = lastRow (viewN ss q (nth ss k).1 k) := by
      rw [ea, lastRow_snoc_none _ (evMove (nums ss k) (nth ss k).2.1) (didOf_ne (s := "move") (by decide +kernel)), lastRow_none _ (rnd_none ss k)]
    unfold keepF
    by_cases z : (nth ss k).1 = 0
    · rw [if_pos z]
      rw [no 1 (by omega), no 2 (by omega)] at ih
      exact ih
    · rw [if_neg z]
      have : (nth ss k).1 = 1 ∨ (nth ss k).1 = 2 := by have := ok.1; omega
      rcases this with e | e
      · rw [if_pos e, if_pos e, if_pos e]
        rw [e] at ask yes
        rw [yes, no 2 (by omega)] at ih
        exact ⟨ask, ih⟩
      · have ne : ¬ (nth ss k).1 = 1 := by omega
        rw [if_neg ne, if_neg ne, if_neg ne]
        rw [e] at ask yes
        rw [yes, no 1 ne] at ih
        exact ⟨ask, ih⟩
theorem own_rem {ss : List Sg} (hok : ∀ s ∈ ss, SgOk s) : (chg ss (asked ss) ss.length []).rem none none := (rem_keeps hok).mpr fun q m => by
  have := own_keeps hok q ((good_paths q).mp m) ss.length 0 (Nat.zero_add _)
  have e : ∀ pl, lastRow (viewN ss q pl 0) = none := fun pl => lastRow_snoc_none [] (evRound 0) (didOf_ne (by decide +kernel))
  rw [e, e] at this
  exact this


/-! ### what remembers and what doesn't -/
def But (p : Addr) (H H' : Hp) : Prop := ∀ b o, b ≠ p → H b = some o → H' b = some o
theorem but_upd {H : Hp} {p : Addr} {o : HO} : But p H (upd H p o) := fun b x n e => by
  rw [upd_ne n]
  exact e
open PySem.W in
theorem kit_own {K : PySem.W.Frag} {C D : Addr} {b : Bool} (h1 : subIn K (.ref D) (.ref C) = some b) (h2 : isClsIn K C = true) (h3 : typeIn K (.ref C) = some (.type "type")) (h4 : subIn K (.ref D) (.ref D) = some true) : kitOne K (.ref D) (.ref C) = some b := by
  unfold kitOne
  by_cases e : D = C
  · subst e
    rw [if_pos (beq_self_eq_true _), ← h1, h4]
  · rw [if_neg (show ¬ (Value.ref D == Value.ref C) = true from fun z => e (Value.ref.inj (beq_iff_eq.mp z)))]
    show (if ((clsIn K C).isSome && typeIn K (.ref C) == some (.type "type")) = true then subIn K (.ref D) (.ref C) else none) = some b
    rw [show (clsIn K C).isSome = true from h2, h3, if_pos (by rfl)]
    exact h1
theorem in_room {A : Around} {k : Nat} (h : Room k A) : A.units + 65 < cLine := by
  have := h.un
  omega
theorem eq_room {A : Around} {k : Nat} (h : Room k A) : A.units + 64 < cLine := by
  have := h.un
  omega

structure Txt (K : PySem.W.Frag) (mg : Str → Option Value) where
  C_End : Addr
  C_Lot : Addr
  C_Turn : Addr
  a_End_init : Addr
  d_End_init : FuncData
  F_End_init : Fun K "__init__" "End.__init__" s_End_init a_End_init d_End_init
  b_End_init : Binds K d_End_init ["self", "paid"] []
  mk_End : Mk K C_End a_End_init
  a_Lot_init : Addr
  d_Lot_init : FuncData
  F_Lot_init : Fun K "__init__" "Lot.__init__" s_Lot_init a_Lot_init d_Lot_init
  b_Lot_init : Binds K d_Lot_init ["self", "parts"] []
  mk_Lot : Mk K C_Lot a_Lot_init
  a_Turn_init : Addr
  d_Turn_init : FuncData
  F_Turn_init : Fun K "__init__" "Turn.__init__" s_Turn_init a_Turn_init d_Turn_init
  b_Turn_init : Binds K d_Turn_init ["self", "player", "view", "parts"] []
  mk_Turn : Mk K C_Turn a_Turn_init
  a_parts_of : Addr
  d_parts_of : FuncData
  F_parts_of : Fun K "parts_of" "parts_of" s_parts_of a_parts_of d_parts_of
  b_parts_of : Binds K d_parts_of ["node"] []
  m_parts_of : mg "parts_of" = some (.ref a_parts_of)
  a_last_row : Addr
  d_last_row : FuncData
  F_last_row : Fun K "last_row" "last_row" s_last_row a_last_row d_last_row
  b_last_row : Binds K d_last_row ["view"] []
  m_last_row : mg "last_row" = some (.ref a_last_row)
  a_remembers : Addr
  d_remembers : FuncData
  F_remembers : Fun K "remembers" "remembers" s_remembers a_remembers d_remembers
  b_remembers : Binds K d_remembers ["tree"] []
  m_remembers : mg "remembers" = some (.ref a_remembers)
  a_law_cell : Addr
  d_law_cell : FuncData
  F_law_cell : Fun K "_law_cell" "_law_cell" s_law_cell a_law_cell d_law_cell
  b_law_cell : Binds K d_law_cell ["script", "k"] []
  m_law_cell : mg "_law_cell" = some (.ref a_law_cell)
  a_law_row : Addr
  d_law_row : FuncData
  F_law_row : Fun K "_law_row" "_law_row" s_law_row a_law_row d_law_row
  b_law_row : Binds K d_law_row ["cell", "count", "size"] []
  m_law_row : mg "_law_row" = some (.ref a_law_row)
  a_law_stages : Addr
  d_law_stages : FuncData
  F_law_stages : Fun K "_law_stages" "_law_stages" s_law_stages a_law_stages d_law_stages
  b_law_stages : Binds K d_law_stages ["script", "most"] []
  m_law_stages : mg "_law_stages" = some (.ref a_law_stages)
  a_law_paths : Addr
  d_law_paths : FuncData
  F_law_paths : Fun K "_law_paths" "_law_paths" s_law_paths a_law_paths d_law_paths
  b_law_paths : Binds K d_law_paths ["stages"] []
  m_law_paths : mg "_law_paths" = some (.ref a_law_paths)
  a_law_view : Addr
  d_law_view : FuncData
  F_law_view : Fun K "_law_view" "_law_view" s_law_view a_law_view d_law_view
  b_law_view : Binds K d_law_view ["stages", "path", "player"] []
  m_law_view : mg "_law_view" = some (.ref a_law_view)
  a_law_asked : Addr
  d_law_asked : FuncData
  F_law_asked : Fun K "_law_asked" "_law_asked" s_law_asked a_law_asked d_law_asked
  b_law_asked : Binds K d_law_asked ["stages", "path"] []
  m_law_asked : mg "_law_asked" = some (.ref a_law_asked)
  a_law_changed : Addr
  d_law_changed : FuncData
  F_law_changed : Fun K "_law_changed" "_law_changed" s_law_changed a_law_changed d_law_changed
  b_law_changed : Binds K d_law_changed ["stages", "path", "place", "view"] []
  m_law_changed : mg "_law_changed" = some (.ref a_law_changed)
  a_law_last : Addr
  d_law_last : FuncData
  F_law_last : Fun K "_law_last" "_law_last" s_law_last a_law_last d_law_last
  b_law_last : Binds K d_law_last ["view"] []
  m_law_last : mg "_law_last" = some (.ref a_law_last)
  a_law_keeps : Addr
  d_law_keeps : FuncData
  F_law_keeps : Fun K "_law_keeps" "_law_keeps" s_law_keeps a_law_keeps d_law_keeps
  b_law_keeps : Binds K d_law_keeps ["stages", "place", "view"] []
  m_law_keeps : mg "_law_keeps" = some (.ref a_law_keeps)
  a_law_spoilt : Addr
  d_law_spoilt : FuncData
  F_law_spoilt : Fun K "_law_spoilt" "_law_spoilt" s_law_spoilt a_law_spoilt d_law_spoilt
  b_law_spoilt : Binds K d_law_spoilt ["view", "cell"] []
  m_law_spoilt : mg "_law_spoilt" = some (.ref a_law_spoilt)
  a_law_bool : Addr
  d_law_bool : FuncData
  F_law_bool : Fun K "_law_bool" "_law_bool" s_law_bool a_law_bool d_law_bool
  b_law_bool : Binds K d_law_bool ["actual", "due"] []
  m_law_bool : mg "_law_bool" = some (.ref a_law_bool)
  a_law : Addr
  d_law : FuncData
  F_law : Fun K "law" "law" s_law a_law d_law
  b_law : Binds K d_law ["script"] []
  m_law : mg "law" = some (.ref a_law)
  m_End : mg "End" = some (.ref C_End)
  cl_End : Cls K C_End
  n_End_paid : NoAttr K C_End "paid"
  ic_End : C8.InsC K C_End
  kc_End_Lot : PySem.W.kitOne K (.ref C_End) (.ref C_Lot) = some false
  kc_End_Turn : PySem.W.kitOne K (.ref C_End) (.ref C_Turn) = some false
  m_Lot : mg "Lot" = some (.ref C_Lot)
  cl_Lot : Cls K C_Lot
  n_Lot_parts : NoAttr K C_Lot "parts"
  ic_Lot : C8.InsC K C_Lot
  kc_Lot_End : PySem.W.kitOne K (.ref C_Lot) (.ref C_End) = some false
  kc_Lot_Turn : PySem.W.kitOne K (.ref C_Lot) (.ref C_Turn) = some false
  m_Turn : mg "Turn" = some (.ref C_Turn)
  cl_Turn : Cls K C_Turn
  n_Turn_player : NoAttr K C_Turn "player"
  n_Turn_view : NoAttr K C_Turn "view"
  n_Turn_parts : NoAttr K C_Turn "parts"
  ic_Turn : C8.InsC K C_Turn
  kc_Turn_End : PySem.W.kitOne K (.ref C_Turn) (.ref C_End) = some false
  kc_Turn_Lot : PySem.W.kitOne K (.ref C_Turn) (.ref C_Lot) = some false
  z_bool : mg "bool" = none
  z_enumerate : mg "enumerate" = none
  z_int : mg "int" = none
  z_isinstance : mg "isinstance" = none
  z_len : mg "len" = none
  z_range : mg "range" = none
  z_sum : mg "sum" = none
  z_tuple : mg "tuple" = none
section
variable {P : Program} {w : World} {K : PySem.W.Frag} {mg : Str → Option Value} {base : Heap}
/-! ### End.__init__ -/
def sp_End_init (T : Txt K mg) : Sp := fun vs H Q _ => ∃ (x dx : Addr) (v : V), vs = [.ref x, v] ∧ H x = some (.ins T.C_End dx []) ∧ ∀ H', But x H H' → H' x = some (.ins T.C_End dx [("paid", v)]) → Q .non H'

theorem ok_End_init (T : Txt K mg) : FnOk P w K mg base CX0 1 T.a_End_init T.d_End_init ["self", "paid"] (sp_End_init T) := by
  refine T.F_End_init.ok sc_End_init (fun vs H Q E h => ?_) (fun cdv A outer s H vs Q E hr h => ?_)
  · obtain ⟨x, dx, v, rfl, _⟩ := h
    rfl
  obtain ⟨x, dx, v, rfl, hx, q⟩ := h
  refine ⟨_, (pss_one (ps_fld (pv 0) (pv 1) rfl)), ?_⟩
  refine ⟨_, rfl, _, rfl, x, T.C_End, dx, [], rfl, hx, T.cl_End, T.n_End_paid, by show 0 < 1000; decide, ?_⟩
  exact q _ but_upd upd_same
/-! ### Lot.__init__ -/
def sp_Lot_init (T : Txt K mg) : Sp := fun vs H Q _ => ∃ (x dx u : Addr) (ps : List V), vs = [.ref x, .ref u] ∧ H x = some (.ins T.C_Lot dx []) ∧ H u = some (.tup ps) ∧ ∀ H', But x H H' → H' x = some (.ins T.C_Lot dx [("parts", .ref u)]) → Q .non H'

theorem ok_Lot_init (T : Txt K mg) : FnOk P w K mg base CX0 1 T.a_Lot_init T.d_Lot_init ["self", "parts"] (sp_Lot_init T) := by
  refine T.F_Lot_init.ok sc_Lot_init (fun vs H Q E h => ?_) (fun cdv A outer s H vs Q E hr h => ?_)
  · obtain ⟨x, dx, u, ps, rfl, _⟩ := h
    rfl
  obtain ⟨x, dx, u, ps, rfl, hx, hu, q⟩ := h
  refine ⟨_, (pss_one (ps_fld (pv 0) (pe_callTy call_tuple_of (by rfl) T.z_tuple (by first | exact PySem.boot_tuple | decide +kernel) (pa_cons (pv 1) pa_nil)) rfl)), ?_⟩
  refine ⟨_, rfl, u, _, rfl, .inr ⟨SqT.of hu, ?_⟩⟩
  refine ⟨_, rfl, x, T.C_Lot, dx, [], rfl, hx, T.cl_Lot, T.n_Lot_parts, by show 0 < 1000; decide, ?_⟩
  exact q _ but_upd upd_same
/-! ### Turn.__init__ -/
def sp_Turn_init (T : Txt K mg) : Sp := fun vs H Q _ => ∃ (x dx a u : Addr) (pl : Int) (es ps : List V), vs = [.ref x, .int pl, .ref a, .ref u] ∧ H x = some (.ins T.C_Turn dx []) ∧ H a = some (.tup es) ∧ H u = some (.tup ps) ∧ ∀ H', But x H H' → H' x = some (.ins T.C_Turn dx [("player", .int pl), ("view", .ref a), ("parts", .ref u)]) → Q .non H'

theorem ok_Turn_init (T : Txt K mg) : FnOk P w K mg base CX0 1 T.a_Turn_init T.d_Turn_init ["self", "player", "view", "parts"] (sp_Turn_init T) := by
  refine T.F_Turn_init.ok sc_Turn_init (fun vs H Q E h => ?_) (fun cdv A outer s H vs Q E hr h => ?_)
  · obtain ⟨x, dx, a, u, pl, es, ps, rfl, _⟩ := h
    rfl
  obtain ⟨x, dx, a, u, pl, es, ps, rfl, hx, ha, hu, q⟩ := h
  have na : a ≠ x := fun z => by rw [z, hx] at ha; cases ha
  have nu : u ≠ x := fun z => by rw [z, hx] at hu; cases hu
  refine ⟨_, (pss_cons (ps_fld (pv 0) (pv 1) rfl)
      (pss_cons (ps_fld (pv 0) (pe_callTy call_tuple_of (by rfl) T.z_tuple (by first | exact PySem.boot_tuple | decide +kernel) (pa_cons (pv 2) pa_nil)) rfl)
      (pss_one (ps_fld (pv 0) (pe_callTy call_tuple_of (by rfl) T.z_tuple (by first | exact PySem.boot_tuple | decide +kernel) (pa_cons (pv 3) pa_nil)) rfl)))), ?_⟩
  refine ⟨_, rfl, _, rfl, x, T.C_Turn, dx, [], rfl, hx, T.cl_Turn, T.n_Turn_player, by show 0 < 1000; decide, ?_⟩
  refine ⟨_, rfl, a, _, rfl, .inr ⟨SqT.of (by rw [upd_ne na]; exact ha), ?_⟩⟩
  refine ⟨_, rfl, x, T.C_Turn, dx, _, rfl, upd_same, T.cl_Turn, T.n_Turn_view, by show 1 < 1000; decide, ?_⟩
  refine ⟨_, rfl, u, _, rfl, .inr ⟨SqT.of (by rw [upd_ne nu, upd_ne nu]; exact hu), ?_⟩⟩
  refine ⟨_, rfl, x, T.C_Turn, dx, _, rfl, upd_same, T.cl_Turn, T.n_Turn_parts, by show 2 < 1000; decide, ?_⟩
  refine q _ (fun b o n e => ?_) upd_same
  rw [upd_ne n, upd_ne n, upd_ne n]
  exact e
/-! ### parts_of -/
mutual
/-- a tree in the store -/
inductive TrV (E L C : Addr) (H : Hp) : V → Tr → Prop
  | fin {a dx : Addr} {v : V} : H a = some (.ins E dx [("paid", v)]) → TrV E L C H (.ref a) .fin
  | lot {a dx u : Addr} {vs : List V} {ts : List Tr} : H a = some (.ins L dx [("parts", .ref u)]) → H u = some (.tup vs) → TrA E L C H vs ts → TrV E L C H (.ref a) (.lot ts)
  | turn {a dx w u : Addr} {pl : Int} {ds : List PyData} {vs : List V} {ts : List Tr} : H a = some (.ins C dx [("player", .int pl), ("view", .ref w), ("parts", .ref u)]) → Im H (.ref w) (.tuple ds) → H u = some (.tup vs) → TrA E L C H vs ts → TrV E L C H (.ref a) (.turn pl ds ts)
inductive TrA (E L C : Addr) (H : Hp) : List V → List Tr → Prop
  | nil : TrA E L C H [] []
  | cons {v : V} {vs : List V} {t : Tr} {ts : List Tr} : TrV E L C H v t → TrA E L C H vs ts → TrA E L C H (v :: vs) (t :: ts)
end
/-- all but lists stays -/
def KeepN (H H' : Hp) : Prop := ∀ b o, (∀ xs, o ≠ .lst xs) → H b = some o → H' b = some o
theorem keepN_of {H H' : Hp} (s : Same H H') : KeepN H H' := fun b o _ e => s b o e
theorem KeepN.trans {H H1 H2 : Hp} (a : KeepN H H1) (b : KeepN H1 H2) : KeepN H H2 := fun c o n e => b c o n (a c o n e)
theorem keepN_lst {H : Hp} {L : Addr} {xs ys : List V} (h : H L = some (.lst xs)) : KeepN H (upd H L (.lst ys)) := fun b o n e => by
  have : b ≠ L := fun z => by rw [z, h] at e; exact n xs (Option.some.inj e).symm
  rw [upd_ne this]
  exact e
theorem KeepN.t {H H' : Hp} (k : KeepN H H') : KeepT H H' := fun b xs e => k b _ (fun _ z => by cases z) e
mutual
theorem TrV.keep {E L C : Addr} {H H' : Hp} (s : KeepN H H') : ∀ {v : V} {t : Tr}, TrV E L C H v t → TrV E L C H' v t
  | _, _, .fin e => .fin (s _ _ (fun _ z => by cases z) e)
  | _, _, .lot e u p => .lot (s _ _ (fun _ z => by cases z) e) (s _ _ (fun _ z => by cases z) u) (TrA.keep s p)
  | _, _, .turn e i u p => .turn (s _ _ (fun _ z => by cases z) e) (i.keep s.t) (s _ _ (fun _ z => by cases z) u) (TrA.keep s p)
theorem TrA.keep {E L C : Addr} {H H' : Hp} (s : KeepN H H') : ∀ {vs : List V} {ts : List Tr}, TrA E L C H vs ts → TrA E L C H' vs ts
  | _, _, .nil => .nil
  | _, _, .cons h t => .cons (TrV.keep s h) (TrA.keep s t)
end
theorem TrV.same {E L C : Addr} {H H' : Hp} (s : Same H H') {v : V} {t : Tr} (h : TrV E L C H v t) : TrV E L C H' v t := h.keep (keepN_of s)
theorem TrA.same {E L C : Addr} {H H' : Hp} (s : Same H H') {v : List V} {t : List Tr} (h : TrA E L C H v t) : TrA E L C H' v t := h.keep (keepN_of s)
theorem TrA.len {E L C : Addr} {H : Hp} : ∀ {vs : List V} {ts : List Tr}, TrA E L C H vs ts → vs.length = ts.length
  | _, _, .nil => rfl
  | _, _, .cons _ t => by rw [List.length_cons, List.length_cons, TrA.len t]
theorem TrA.get {E L C : Addr} {H : Hp} : ∀ {vs : List V} {ts : List Tr} {i : Nat} {v : V}, TrA E L C H vs ts → vs[i]? = some v → ∃ t, ts[i]? = some t ∧ TrV E L C H v t
  | _, _, _, _, .nil, e => by simp at e
  | _, _, 0, _, .cons h _, e => by cases e; exact ⟨_, rfl, h⟩
  | _, _, i + 1, _, .cons _ t, e => by
    rw [List.getElem?_cons_succ] at e
    obtain ⟨y, h, r⟩ := TrA.get t e
    exact ⟨y, by rw [List.getElem?_cons_succ]; exact h, r⟩
theorem TrA.snoc {E L C : Addr} {H : Hp} : ∀ {vs : List V} {ts : List Tr} {v : V} {t : Tr}, TrA E L C H vs ts → TrV E L C H v t → TrA E L C H (vs ++ [v]) (ts ++ [t])
  | _, _, _, _, .nil, r => .cons r .nil
  | _, _, _, _, .cons r t, r' => .cons r (TrA.snoc t r')
theorem ins_ty {C : Addr} (c : C8.InsC K C) {H : Hp} {a dx : Addr} {fs : List (Str × V)} (h : H a = some (.ins C dx fs)) : TyX K H (.ref a) (.ref C) := .base (.ins h c.cl c.ha c.hn c.htk c.hm)
/-- the nodes directly below -/
def Tr.kids : Tr → List Tr
  | .fin => []
  | .lot ts => ts
  | .turn _ _ ts => ts
def sp_parts_of (T : Txt K mg) : Sp := fun vs H Q _ => ∃ (v : V) (t : Tr), vs = [v] ∧ TrV T.C_End T.C_Lot T.C_Turn H v t ∧
  ∀ (u : Addr) (ps : List V) (H' : Hp), Same H H' → H' u = some (.tup ps) → TrA T.C_End T.C_Lot T.C_Turn H' ps t.kids → Q (.ref u) H'

theorem ok_parts_of (T : Txt K mg) : FnOk P w K mg base CX0 1 T.a_parts_of T.d_parts_of ["node"] (sp_parts_of T) := by
  refine T.F_parts_of.ok sc_parts_of (fun vs H Q E h => ?_) (fun cdv A outer s H vs Q E hr h => ?_)
  · obtain ⟨v, t, rfl, _⟩ := h
    rfl
  obtain ⟨v, t, rfl, hv, q⟩ := h
  refine ⟨_, (pss_cons (ps_if (pt_truth (pe_callB call_isi (by rfl) T.z_isinstance (by first | exact PySem.boot_isinstance | decide +kernel) (pa_cons (pv 0) (pa_cons (pe_glob (v := .ref T.C_End) (by rfl) T.m_End rfl) pa_nil))) (fun _ => rfl)) (pss_one (ps_ret (pe_tup pa_nil))) pss_nil)
      (pss_one (ps_ret (pe_fld (pv 0) rfl)))), ?_⟩
  cases hv with
  | fin e =>
    refine ⟨_, rfl, _, .ref T.C_End, .ref T.C_End, .ref T.C_End, true, rfl, .own _, ins_ty T.ic_End e, T.ic_End.me, _, rfl, iteT ?_⟩
    refine ⟨by show 0 ≤ sizeLine; decide, fun U fU => ?_⟩
    exact q U [] _ (same_upd fU) upd_same .nil
  | lot e hu p =>
    refine ⟨_, rfl, _, .ref T.C_End, .ref T.C_Lot, .ref T.C_End, false, rfl, .own _, ins_ty T.ic_Lot e, T.kc_Lot_End, _, rfl, iteF ?_⟩
    refine ⟨_, rfl, _, _, _, _, _, rfl, e, T.cl_Lot, T.n_Lot_parts, rfl, ?_⟩
    exact q _ _ _ (fun _ _ z => z) hu p
  | turn e i hu p =>
    refine ⟨_, rfl, _, .ref T.C_End, .ref T.C_Turn, .ref T.C_End, false, rfl, .own _, ins_ty T.ic_Turn e, T.kc_Turn_End, _, rfl, iteF ?_⟩
    refine ⟨_, rfl, _, _, _, _, _, rfl, e, T.cl_Turn, T.n_Turn_parts, rfl, ?_⟩
    exact q _ _ _ (fun _ _ z => z) hu p
/-! ### last_row -/
def sp_last_row (T : Txt K mg) : Sp := fun vs H Q _ => ∃ (a : Addr) (ds : List PyData), vs = [.ref a] ∧ Im H (.ref a) (.tuple ds) ∧ (∀ d ∈ ds, Ev d) ∧ ds.length ≤ 900 ∧ (lastRow ds = none → Q .non H) ∧
  ∀ pre k, lastRow ds = some (pre, k) → ∀ (p q : Addr) (H' : Hp), Same H H' → H' p = some (.tup [.ref q, .int k]) → Im H' (.ref q) (.tuple pre) → Q (.ref p) H'

theorem ok_last_row (T : Txt K mg) : FnOk P w K mg base CX0 1 T.a_last_row T.d_last_row ["view"] (sp_last_row T) := by
  refine T.F_last_row.ok sc_last_row (fun vs H Q E h => ?_) (fun cdv A outer s H vs Q E hr h => ?_)
  · obtain ⟨a, ds, rfl, _⟩ := h
    rfl
  obtain ⟨a, ds, rfl, hI, hE, hlen, q0, q1⟩ := h
  cases hI with
  | @tup _ xs _ hT hA =>
  have hxl := hA.len
  refine ⟨_, (pss_cons (ps_set (i := 1) sc_last_row.nd rfl (by first | exact Or.inl rfl | exact Or.inr rfl) (pe_op op_sub (pe_callB call_len_seq (by rfl) T.z_len (by first | exact PySem.boot_len | decide +kernel) (pa_cons (pv 0) pa_nil)) pe_int))
      (C8.pss_cut (ps_while PassesOwn.never (PW.pt (pw_and (pt_cmpR op_ge (pv 1) pe_int (nomark _)) (pw_and1 (pt_cmpR op_ne (pe_ix ix_tup (pe_ix ix_tup (pv 0) (pv 1) (fun _ _ => rfl)) pe_int (fun _ _ => rfl)) pe_str (nomark _))))) (pss_one (ps_aug (i := 1) sc_last_row.nd rfl (by first | exact Or.inl rfl | exact Or.inr rfl) pe_int ip_sub)))
      (pss_cons (ps_if (pt_cmpR op_lt (pv 1) pe_int (nomark _)) (pss_one (ps_ret pe_non)) pss_nil)
      (pss_one (ps_ret (pe_tup (pa_cons (pe_slice sl_tup (pv 0) po_none (po_some (pv 1))) (pa_cons (pe_ix ix_tup (pe_ix ix_tup (pv 0) (pv 1) (fun _ _ => rfl)) pe_int (fun _ _ => rfl)) pa_nil)))))))), ?_⟩
  refine ⟨_, rfl, a, xs, rfl, .inr (SqT.of hT), _, _, rfl, rfl, ?_⟩
  refine ⟨fun σ' H' => ∃ i : Nat, σ' = [some (.ref a), some (.int ((i : Int) - 1))] ∧ i ≤ ds.length ∧ H' = H ∧ (i = 0 → lastRow ds = none) ∧ (∀ j, i = j + 1 → ∃ k, ds[j]? = some (evDid k) ∧ lastRow ds = some (ds.take j, k)), ?_, ?_⟩
  · refine ⟨fun m σ H' => ∃ i : Nat, σ = [some (.ref a), some (.int ((i : Int) - 1))] ∧ m = i ∧ i ≤ ds.length ∧ lastRow (ds.take i) = lastRow ds ∧ H' = H, ⟨_, ds.length, ?_, rfl, Nat.le_refl _, by rw [List.take_length], rfl⟩, ?_⟩
    · rw [← hxl]
      rfl
    rintro m σ H0 ⟨i, rfl, rfl, hi, hl, rfl⟩
    refine ⟨_, rfl, _, _, rfl, rfl, _, rfl, ite2 (fun c => ?_) (fun c => ?_)⟩
    · have c' : (0 : Int) ≤ (m : Int) - 1 := of_decide_eq_true c
      obtain ⟨j, rfl⟩ : ∃ j, m = j + 1 := ⟨m - 1, by omega⟩
      have ej : ((j + 1 : Nat) : Int) - 1 = (j : Int) := by omega
      have gd : ds[j]? = some ds[j] := List.getElem?_eq_getElem (by omega)
      obtain ⟨v, gv, hv⟩ := hA.get gd
      have tk : ds.take (j + 1) = ds.take j ++ [ds[j]] := by rw [List.take_add_one, gd]; rfl
      obtain ⟨_, s0, rest, ed, hdid⟩ := hE ds[j] (List.getElem_mem (by omega))
      rw [ed] at hv
      cases hv with
      | @tup b ys _ hb hB =>
      cases hB with
      | @cons y yr _ _ hy hYr =>
      cases hy
      refine ⟨_, rfl, _, rfl, a, xs, _, .ref b, rfl, rfl, SqT.of hT, at_of ej gv, b, _, 0, .str s0, rfl, rfl, SqT.of hb, atI_nat (j := 0) rfl, rfl, _, rfl, ite2 (fun e => ?_) (fun e => ?_)⟩
      · have ne : s0 ≠ "did" := fun z => by rw [z] at e; simp at e
        refine ⟨fun σ' H' => σ' = [some (.ref a), some (.int ((j : Int) - 1))] ∧ H' = H0, fun σ' H' hN => ⟨j, by omega, j, hN.1, rfl, by omega, ?_, hN.2⟩, _, rfl, _, _, rfl, rfl, ?_, rfl⟩
        · rw [← hl, tk, lastRow_snoc_none _ _ (by rw [ed]; exact didOf_ne ne)]
        · show [some (V.ref a), some (.int (((j + 1 : Nat) : Int) - 1 - 1))] = _
          rw [ej]
      · have eq : s0 = "did" := Classical.byContradiction fun z => e (by simp [z])
        obtain ⟨k, rfl⟩ := hdid eq
        subst eq
        refine ⟨j + 1, rfl, hi, rfl, fun z => by omega, fun j' z => ?_⟩
        cases z
        refine ⟨k, by rw [gd, ed]; rfl, ?_⟩
        rw [← hl, tk, lastRow_snoc_some _ _ k (by rw [ed]; exact didOf_did k)]
    · have c' : ¬ (0 : Int) ≤ (m : Int) - 1 := fun z => c (decide_eq_true z)
      have m0 : m = 0 := by omega
      subst m0
      exact ⟨0, rfl, Nat.zero_le _, rfl, fun _ => by rw [← hl, List.take_zero]; rfl, fun j z => by omega⟩
  rintro σ1 H1 ⟨i, rfl, hi, rfl, h0, h1⟩
  refine ⟨_, rfl, _, _, rfl, rfl, _, rfl, ite2 (fun c => ?_) (fun c => ?_)⟩
  · have c' : (i : Int) - 1 < 0 := of_decide_eq_true c
    exact q0 (h0 (by omega))
  · have c' : ¬ (i : Int) - 1 < 0 := fun z => c (decide_eq_true z)
    obtain ⟨j, rfl⟩ : ∃ j, i = j + 1 := ⟨i - 1, by omega⟩
    have ej : ((j + 1 : Nat) : Int) - 1 = (j : Int) := by omega
    obtain ⟨k, gd, hl⟩ := h1 j rfl
    obtain ⟨v, gv, hv⟩ := hA.get gd
    cases hv with
    | @tup b ys _ hb hB =>
    cases hB with
    | @cons y yr _ _ hy hYr =>
    cases hy
    cases hYr with
    | @cons y2 yr2 _ _ hy2 hYr2 =>
    cases hy2
    cases hYr2
    refine ⟨_, rfl, _, rfl, _, rfl, a, xs, rfl, SqT.of hT, ?_, fun q hq => ?_⟩
    · rw [ej, HT.sIx_none, HT.sIx_nat]
      intro z
      have := z.2
      omega
    rw [ej, cut_to]
    generalize eH2 : upd H1 q _ = H2
    have s2 : Same H1 H2 := eH2 ▸ same_upd hq
    have e2 : H2 q = some (.tup (xs.take j)) := eH2 ▸ upd_same
    clear eH2
    refine ⟨_, rfl, _, rfl, a, xs, _, .ref b, rfl, rfl, SqT.of (s2 _ _ hT), atI_nat gv, b, _, 1, .int k, rfl, rfl, SqT.of (s2 _ _ hb), atI_nat (j := 1) rfl, by show 2 ≤ sizeLine; decide, fun p hp => ?_⟩
    refine q1 _ k hl p q _ (s2.trans (same_upd hp)) upd_same ?_
    exact .tup ((same_upd hp) _ _ e2) ((hA.take j).keep (keepT_of (s2.trans (same_upd hp))))
/-! ### remembers -/
mutual
/-- views that can be compared, and how many nodes -/
def Tr.ok : Tr → Prop
  | .fin => True
  | .lot ts => okL ts
  | .turn _ v ts => ((∀ d ∈ v, EvP d) ∧ v.length ≤ 900) ∧ okL ts
def okL : List Tr → Prop
  | [] => True
  | t :: r => t.ok ∧ okL r
end
mutual
def Tr.sz : Tr → Nat
  | .fin => 1
  | .lot ts => 1 + szTs ts
  | .turn _ _ ts => 1 + szTs ts
def szTs : List Tr → Nat
  | [] => 0
  | t :: r => t.sz + szTs r
end
theorem okL_mem : ∀ {ts : List Tr}, okL ts → ∀ t ∈ ts, t.ok
  | [], _, _, m => by cases m
  | t :: r, h, x, m => (List.mem_cons.mp m).elim (fun e => e ▸ h.1) (okL_mem h.2 x)
/-- a node that waits, with the rows taken last -/
abbrev Wt := Tr × Option Row × Option Row
def WtV (E L C : Addr) (H : Hp) (v : V) (i : Wt) : Prop := ∃ u n x y, v = .ref u ∧ H u = some (.tup [n, x, y]) ∧ TrV E L C H n i.1 ∧ Im H x (rowD i.2.1) ∧ Im H y (rowD i.2.2)
theorem WtV.keep {E L C : Addr} {H H' : Hp} (k : KeepN H H') {v : V} {i : Wt} (h : WtV E L C H v i) : WtV E L C H' v i := by
  obtain ⟨u, n, x, y, e, t, a, b, c⟩ := h
  exact ⟨u, n, x, y, e, k _ _ (fun _ z => by cases z) t, a.keep k, b.keep k.t, c.keep k.t⟩
def Rok (r : Option Row) : Prop := ∀ v k, r = some (v, k) → (∀ d ∈ v, EvP d) ∧ v.length ≤ 900
def WtOk (i : Wt) : Prop := i.1.ok ∧ Rok i.2.1 ∧ Rok i.2.2
def szW : List Wt → Nat
  | [] => 0
  | i :: r => i.1.sz + szW r
theorem szW_app : ∀ (a b : List Wt), szW (a ++ b) = szW a + szW b
  | [], b => (Nat.zero_add _).symm
  | i :: r, b => by
    show i.1.sz + szW (r ++ b) = i.1.sz + szW r + szW b
    rw [szW_app r b]
    omega
theorem sz_pos : ∀ t : Tr, 1 ≤ t.sz
  | .fin => Nat.le_refl _
  | .lot ts => by show 1 ≤ 1 + _; omega
  | .turn _ _ ts => by show 1 ≤ 1 + _; omega
theorem szW_len : ∀ (a : List Wt), a.length ≤ szW a
  | [] => Nat.le_refl _
  | i :: r => by
    have := szW_len r
    have := sz_pos i.1
    show r.length + 1 ≤ i.1.sz + szW r
    omega
theorem szW_map (f : Tr → Nat → Wt) (hf : ∀ t n, (f t n).1 = t) : ∀ (ts : List Tr) (n : Nat), szW (ts.mapIdx fun i t => f t (n + i)) = szTs ts
  | [], _ => rfl
  | t :: r, n => by
    rw [List.mapIdx_cons]
    show (f t (n + 0)).1.sz + szW (r.mapIdx fun i t => f t (n + (i + 1))) = t.sz + szTs r
    rw [hf]
    have := szW_map f hf r (n + 1)
    have e : (fun (i : Nat) (t : Tr) => f t (n + 1 + i)) = fun i t => f t (n + (i + 1)) := by
      funext i t
      rw [show n + 1 + i = n + (i + 1) by omega]
    rw [e] at this
    rw [this]
theorem paired_last {α β : Type} {R : α → β → Prop} : ∀ {xs : List α} {y : α} {bs : List β}, Paired R (xs ++ [y]) bs → ∃ cs c, bs = cs ++ [c] ∧ Paired R xs cs ∧ R y c
  | [], y, _, .cons r .nil => ⟨[], _, rfl, .nil, r⟩
  | x :: xs, y, _, .cons r t => by
    obtain ⟨cs, c, e, p, q⟩ := paired_last t
    exact ⟨_ :: cs, c, by rw [e]; rfl, .cons r p, q⟩
theorem paired_appS {α β : Type} {R : α → β → Prop} : ∀ {xs us : List α} {ys vs : List β}, Paired R xs ys → Paired R us vs → Paired R (xs ++ us) (ys ++ vs)
  | _, _, _, _, .nil, q => q
  | _, _, _, _, .cons r t, q => .cons r (paired_appS t q)
theorem lr_one (T : Txt K mg) {H : Hp} {a : Addr} {ds : List PyData} {Q : VK} {E : XK} (hi : Im H (.ref a) (.tuple ds)) (he : ∀ d ∈ ds, EvP d) (hl : ds.length ≤ 900) (k : ∀ v H', Same H H' → Im H' v (rowD (lastRow ds)) → Q v H') : sp_last_row T [.ref a] H Q E := by
  refine ⟨a, ds, rfl, hi, fun d m => (he d m).1, hl, fun e => ?_, fun pre n e p q H' s ep iq => ?_⟩
  · refine k .non H (fun _ _ z => z) ?_
    rw [e]
    exact .non
  · refine k (.ref p) H' s ?_
    rw [e]
    exact .tup ep (.cons iq (.cons (.int _) .nil))
theorem rows_ne {a b : Option Row} (ha : Rok a) (hb : Rok b) : (!PyData.eqv (rowD a) (rowD b)) = true ↔ a ≠ b := by
  have pa := rowD_pl fun v k e => (ha v k e).1
  have pb := rowD_pl fun v k e => (hb v k e).1
  have la := rowD_lay ha
  by_cases z : a = b
  · subst z
    rw [la.refl]
    simp
  · have : PyData.eqv (rowD a) (rowD b) = false := Bool.eq_false_iff.mpr fun h => z (rowD_inj (eqv_pl pa pb h))
    rw [this]
    simp [z]
theorem szW_map0 (a b : Option Row) : ∀ ts : List Tr, szW (ts.map fun t => ((t, a, b) : Wt)) = szTs ts
  | [] => rfl
  | t :: r => by
    show t.sz + szW (r.map fun t => ((t, a, b) : Wt)) = t.sz + szTs r
    rw [szW_map0 a b r]
theorem take_mapIdx {β : Type} {f : Nat → Tr → β} {ts : List Tr} {i : Nat} {t : Tr} (h : ts[i]? = some t) : (ts.mapIdx f).take (i + 1) = (ts.mapIdx f).take i ++ [f i t] := by
  rw [List.take_add_one, List.getElem?_mapIdx, h]
  rfl
theorem okL_len : ∀ ts : List Tr, ts.length ≤ szTs ts
  | [] => Nat.le_refl _
  | t :: r => by
    have := okL_len r
    have := sz_pos t
    show r.length + 1 ≤ t.sz + szTs r
    omega
def sp_remembers (T : Txt K mg) : Sp := fun vs H Q _ => ∃ (v : V) (t : Tr), vs = [v] ∧ TrV T.C_End T.C_Lot T.C_Turn H v t ∧ t.ok ∧ t.sz ≤ 900 ∧
  ∀ (b : Bool) (H' : Hp), Same H H' → (b = true ↔ t.rem none none) → Q (.bl b) H'

theorem ok_remembers (T : Txt K mg) : FnOk P w K mg base CX0 2 T.a_remembers T.d_remembers ["tree"] (sp_remembers T) := by
  refine T.F_remembers.ok sc_remembers (fun vs H Q E h => ?_) (fun cdv A outer s H vs Q E hr h => ?_)
  · obtain ⟨v, t, rfl, _⟩ := h
    rfl
  obtain ⟨v, t, rfl, hv, hok, hsz, q⟩ := h
  refine ⟨_, (pss_cons (ps_set (i := 1) sc_remembers.nd rfl (by first | exact Or.inl rfl | exact Or.inr rfl) (pe_lst (pa_cons (pe_tup (pa_cons (pv 0) (pa_cons pe_non (pa_cons pe_non pa_nil)))) pa_nil)))
      (pss_cons (ps_while PassesOwn.never (pt_truth (pv 1) (fun _ => rfl)) (pss_cons (ps_asg (pe_bm0 PySem.F.plainAttrs_list PySem.F.slot_list_pop PySem.F.type_list_pop mt_pop (pv 1)) (pg_tup rfl (pgs_cons (pg_name (i := 2) sc_remembers.nd rfl (by first | exact Or.inl rfl | exact Or.inr rfl)) (pgs_cons (pg_name (i := 3) sc_remembers.nd rfl (by first | exact Or.inl rfl | exact Or.inr rfl)) (pgs_cons (pg_name (i := 4) sc_remembers.nd rfl (by first | exact Or.inl rfl | exact Or.inr rfl)) pgs_nil)))))
      (pss_one (ps_if (pt_not (pt_truth (pe_callB call_isi (by rfl) T.z_isinstance (by first | exact PySem.boot_isinstance | decide +kernel) (pa_cons (pv 2) (pa_cons (pe_glob (v := .ref T.C_Turn) (by rfl) T.m_Turn rfl) pa_nil))) (fun _ => rfl))) (pss_one (ps_expr (pe_bm PySem.F.plainAttrs_list PySem.F.slot_list_extend PySem.F.type_list_extend mt_extend (pv 1) (pa_cons (pe_lc (own := [("part", 5)]) (g := gName 5) (tt := tYes) rfl sc_remembers.nd (pi_tup (pe_call (ok_parts_of T) (hr.mono (by decide)) (by rfl) T.m_parts_of T.F_parts_of.kp T.b_parts_of .nil pass0 (pa_cons (pv 2) pa_nil))) (blkOk_by (N := N_remembers) (sc := defScope s_remembers) (by decide +kernel)) (fun _ _ _ _ _ => (pg_name (i := 5) sc_remembers.nd rfl (by first | exact Or.inl rfl | exact Or.inr rfl))) (fun _ _ _ _ _ => pts_nil) (fun _ _ _ _ _ => (pe_tup (pa_cons (pv 5) (pa_cons (pv 3) (pa_cons (pv 4) pa_nil)))))) pa_nil)))) (pss_one (ps_if (pt_cmpR (op_neD hr.units) (pe_call (ok_last_row T) (hr.mono (by decide)) (by rfl) T.m_last_row T.F_last_row.kp T.b_last_row .nil pass0 (pa_cons (pe_fld (pv 2) rfl) pa_nil)) (pe_ifExp (pt_cmpR op_eq (pe_fld (pv 2) rfl) pe_int (nomark _)) (pv 3) (pv 4)) (nomark _)) (pss_one (ps_ret pe_bl)) (pss_one (ps_if (pt_cmpR op_eq (pe_fld (pv 2) rfl) pe_int (nomark _)) (pss_one (ps_expr (pe_bm PySem.F.plainAttrs_list PySem.F.slot_list_extend PySem.F.type_list_extend mt_extend (pv 1) (pa_cons (pe_lc (own := [("move", 6), ("part", 5)]) (g := gTup K 2 (gCons (gName 6) (gCons (gName 5) gNil))) (tt := tYes) rfl sc_remembers.nd (pi_enumT (by rfl) T.z_enumerate (pa_cons (pe_fld (pv 2) rfl) pa_nil)) (blkOk_by (N := N_remembers) (sc := defScope s_remembers) (by decide +kernel)) (fun _ _ _ _ _ => (by exact (pg_tup rfl (pgs_cons (pg_name (i := 6) sc_remembers.nd rfl (by first | exact Or.inl rfl | exact Or.inr rfl)) (pgs_cons (pg_name (i := 5) sc_remembers.nd rfl (by first | exact Or.inl rfl | exact Or.inr rfl)) pgs_nil))))) (fun _ _ _ _ _ => pts_nil) (fun _ _ _ _ _ => (by exact (pe_tup (pa_cons (pv 5) (pa_cons (pe_tup (pa_cons (show PE _ _ (tFld K _ _) from (pe_fld (pv 2) rfl)) (pa_cons (pv 6) pa_nil))) (pa_cons (pv 4) pa_nil))))))) pa_nil)))) (pss_one (ps_expr (pe_bm PySem.F.plainAttrs_list PySem.F.slot_list_extend PySem.F.type_list_extend mt_extend (pv 1) (pa_cons (pe_lc (own := [("move", 6), ("part", 5)]) (g := gTup K 2 (gCons (gName 6) (gCons (gName 5) gNil))) (tt := tYes) rfl sc_remembers.nd (pi_enumT (by rfl) T.z_enumerate (pa_cons (pe_fld (pv 2) rfl) pa_nil)) (blkOk_by (N := N_remembers) (sc := defScope s_remembers) (by decide +kernel)) (fun _ _ _ _ _ => (by exact (pg_tup rfl (pgs_cons (pg_name (i := 6) sc_remembers.nd rfl (by first | exact Or.inl rfl | exact Or.inr rfl)) (pgs_cons (pg_name (i := 5) sc_remembers.nd rfl (by first | exact Or.inl rfl | exact Or.inr rfl)) pgs_nil))))) (fun _ _ _ _ _ => pts_nil) (fun _ _ _ _ _ => (by exact (pe_tup (pa_cons (pv 5) (pa_cons (pv 3) (pa_cons (pe_tup (pa_cons (show PE _ _ (tFld K _ _) from (pe_fld (pv 2) rfl)) (pa_cons (pv 6) pa_nil))) pa_nil))))))) pa_nil))))))))))))
      (pss_one (ps_ret pe_bl)))), ?_⟩
  refine ⟨_, rfl, by show 3 ≤ sizeLine; decide, fun U fU => ⟨by show 1 ≤ sizeLine; decide, fun L fL => ?_⟩⟩
  have sU := same_upd (o := .tup [v, .non, .non]) fU
  have sL := same_upd (o := .lst [V.ref U]) fL
  have s0 := sU.trans sL
  have hL := noneB sU fL
  have none_ok : Rok none := fun _ _ z => by cases z
  refine ⟨fun m σ' H' => ∃ (y2 y3 y4 : Option V) (xs : List V) (ws : List Wt), σ' = [some v, some (.ref L), y2, y3, y4, none, none] ∧ Same H H' ∧ H' L = some (.lst xs) ∧ Paired (WtV T.C_End T.C_Lot T.C_Turn H') xs ws ∧ (∀ i ∈ ws, WtOk i) ∧ szW ws = m ∧ m ≤ 900 ∧ ((∀ i ∈ ws, i.1.rem i.2.1 i.2.2) ↔ t.rem none none), ⟨t.sz, _, _, _, [.ref U], [(t, none, none)], rfl, s0, upd_same, .cons ⟨U, _, _, _, rfl, sL _ _ upd_same, hv.same s0, .non, .non⟩ .nil, fun i m => by rw [List.mem_singleton.mp m]; exact ⟨hok, none_ok, none_ok⟩, Nat.add_zero _, hsz, ⟨fun h => h _ List.mem_cons_self, fun h i m => by rw [List.mem_singleton.mp m]; exact h⟩⟩, ?_⟩
  rintro m σ1 H1 ⟨y2, y3, y4, xs, ws, rfl, s1, e1, p1, o1, z1, m9, r1⟩
  refine ⟨_, rfl, _, .inl ⟨xs, SqL.of e1, rfl⟩, ite2 (fun c => ?_) (fun c => ?_)⟩
  · obtain ⟨ini, y, rfl⟩ : ∃ ini y, xs = ini ++ [y] := by
      have n1 : xs ≠ [] := fun z => by rw [z] at c; simp at c
      exact ⟨xs.dropLast, xs.getLast n1, (List.dropLast_concat_getLast n1).symm⟩
    obtain ⟨us, ⟨nd, ra, rb⟩, rfl, pi, ⟨w, n, x, z, rfl, hw, tv, ia, ib⟩⟩ := paired_last p1
    obtain ⟨ndok, raok, rbok⟩ := o1 _ (List.mem_append_right _ List.mem_cons_self)
    rw [szW_app] at z1
    have z1' : szW us + (nd.sz + 0) = m := z1
    have li := paired_lenS pi
    have lw := szW_len us
    refine ⟨_, fun _ _ h => h, ?_⟩
    refine ⟨_, rfl, .inl ⟨rfl, _, SqL.of e1⟩, L, _, .ref w, rfl, rfl, e1, by simp, ?_⟩
    have e2 : upd H1 L (.lst (ini ++ [V.ref w]).dropLast) L = some (.lst ini) := by rw [upd_same, List.dropLast_concat]
    have k2 : KeepN H1 (upd H1 L (.lst (ini ++ [V.ref w]).dropLast)) := keepN_lst e1
    have b2 : Same H (upd H1 L (.lst (ini ++ [V.ref w]).dropLast)) := fun b o e => by
      rw [upd_ne (ne_of_none e hL)]
      exact s1 _ _ e
    revert e2 k2 b2
    generalize upd H1 L (.lst (ini ++ [V.ref w]).dropLast) = H2
    intro e2 k2 b2
    have hw2 := k2 _ _ (fun _ z => by cases z) hw
    have tv2 := tv.keep k2
    have ia2 := ia.keep k2.t
    have ib2 := ib.keep k2.t
    have pi2 := L2.Paired.mapP pi fun _ _ y => y.keep k2
    refine ⟨w, _, rfl, SqT.of hw2, rfl, _, _, rfl, _, _, rfl, _, _, rfl, rfl, ?_⟩
    clear hw tv ia ib pi p1 e1 k2
    -- what is put back
    have back : ∀ (D : Addr) (zs : List V) (H3 : Hp) (es : List Wt), Same H2 H3 → H3 D = some (.lst zs) → Paired (WtV T.C_End T.C_Lot T.C_Turn H3) zs es → (∀ i ∈ es, WtOk i) → szW es + 1 ≤ nd.sz → ((∀ i ∈ es, i.1.rem i.2.1 i.2.2) ↔ nd.rem ra rb) →
        rExtend (.ref L) [.ref D] H3 fun _ H' => ∃ m', m' < m ∧ ∃ (y2 y3 y4 : Option V) (xs : List V) (ws : List Wt), [some v, some (V.ref L), some n, some x, some z, none, none] = [some v, some (.ref L), y2, y3, y4, none, none] ∧ Same H H' ∧ H' L = some (.lst xs) ∧ Paired (WtV T.C_End T.C_Lot T.C_Turn H') xs ws ∧ (∀ i ∈ ws, WtOk i) ∧ szW ws = m' ∧ m' ≤ 900 ∧ ((∀ i ∈ ws, i.1.rem i.2.1 i.2.2) ↔ t.rem none none) := fun D zs H3 es s3 eD pz ez hz hrem => by
      have e3 := s3 _ _ e2
      have lz := paired_lenS pz
      have lz2 := szW_len es
      have kL := keepN_lst (ys := ini ++ zs) e3
      refine ⟨L, D, ini, zs, rfl, rfl, e3, eD, small_le (by omega), szW us + szW es, by omega, _, _, _, ini ++ zs, us ++ es, rfl, fun b o e => ?_, upd_same, paired_appS (L2.Paired.mapP pi2 fun _ _ y => y.keep ((keepN_of s3).trans kL)) (L2.Paired.mapP pz fun _ _ y => y.keep kL), fun i mi => ?_, szW_app _ _, by omega, ?_⟩
      · rw [upd_ne (ne_of_none e hL)]
        exact s3 _ _ (b2 _ _ e)
      · rcases List.mem_append.mp mi with mi | mi
        · exact o1 i (List.mem_append_left _ mi)
        · exact ez i mi
      · rw [← r1]
        constructor
        · intro h i mi
          rcases List.mem_append.mp mi with mi | mi
          · exact h i (List.mem_append_left _ mi)
          · rw [List.mem_singleton.mp mi]
            exact hrem.mp fun j mj => h j (List.mem_append_right _ mj)
        · intro h i mi
          rcases List.mem_append.mp mi with mi | mi
          · exact h i (List.mem_append_left _ mi)
          · exact hrem.mpr (h _ (List.mem_append_right _ List.mem_cons_self)) i mi
    have cls : (∃ Cx, TyX K H2 n (.ref Cx) ∧ PySem.W.kitOne K (.ref Cx) (.ref T.C_Turn) = some false ∧ (nd.rem ra rb ↔ ∀ t ∈ nd.kids, t.rem ra rb) ∧ okL nd.kids ∧ szTs nd.kids + 1 ≤ nd.sz) ∨
        ∃ (a dx w' u : Addr) (pl : Int) (ds : List PyData) (vs : List V) (ts : List Tr), n = .ref a ∧ nd = .turn pl ds ts ∧ H2 a = some (.ins T.C_Turn dx [("player", .int pl), ("view", .ref w'), ("parts", .ref u)]) ∧ Im H2 (.ref w') (.tuple ds) ∧ H2 u = some (.tup vs) ∧ TrA T.C_End T.C_Lot T.C_Turn H2 vs ts := by
      cases id tv2 with
      | fin e => exact .inl ⟨T.C_End, ins_ty T.ic_End e, T.kc_End_Turn, ⟨fun _ t m => (by cases m), fun _ => trivial⟩, trivial, Nat.le_refl _⟩
      | lot e hu p => exact .inl ⟨T.C_Lot, ins_ty T.ic_Lot e, T.kc_Lot_Turn, remL_iff, ndok, Nat.le_of_eq (Nat.add_comm _ _)⟩
      | turn e i hu p => exact .inr ⟨_, _, _, _, _, _, _, _, rfl, rfl, e, i, hu, p⟩
    rcases cls with ⟨Cx, ty, kt, hrem, okk, szk⟩ | ⟨a, dx, w', u, pl, ds, vs, ts, rfl, rfl, ea, iw, hu, pa⟩
    · refine ⟨_, rfl, n, .ref T.C_Turn, .ref Cx, .ref T.C_Turn, false, rfl, .own _, ty, kt, _, rfl, iteT ?_⟩
      have kl := okL_len nd.kids
      refine ⟨_, rfl, .inl ⟨rfl, _, SqL.of e2⟩, _, rfl, n, nd, rfl, tv2, fun u ps H3 s3 hu pa => ⟨u, rfl, ⟨_, SqT.of hu⟩, fun D hD => ?_⟩⟩
      have lpa := pa.len
      refine lc_tup (a := u) (xs := ps) (fun i H' => Same H3 H' ∧ ∃ zs, H' D = some (.lst zs) ∧ Paired (WtV T.C_End T.C_Lot T.C_Turn H') zs ((nd.kids.take i).map fun t => ((t, ra, rb) : Wt))) ⟨same_upd hD, [], upd_same, .nil⟩ (fun i H' _ h => SqT.of (h.1 _ _ hu)) (fun i x' H4 hx h => ?_) (fun H4 h => ?_)
      · obtain ⟨s4, zs, e4, p4⟩ := h
        obtain ⟨t', ht, tv'⟩ := pa.get hx
        have lz := paired_lenS p4
        rw [List.length_map, List.length_take] at lz
        refine ⟨rfl, ?_⟩
        refine ⟨_, rfl, _, rfl, _, rfl, by show 3 ≤ sizeLine; decide, fun W fW => ?_⟩
        have sW := same_upd (o := .tup [x', x, z]) fW
        have e5 := sW _ _ e4
        have nW : W ≠ D := (ne_of_none e4 fW).symm
        have kD := keepN_lst (ys := zs ++ [.ref W]) e5
        have kA := (keepN_of ((s3.trans s4).trans sW)).trans kD
        refine ⟨zs, e5, Nat.lt_of_le_of_lt (show zs.length ≤ 999 by omega) (small1000 (by omega)), fun b o e => ?_, zs ++ [.ref W], upd_same, ?_⟩
        · rw [upd_ne (ne_of_none e hD)]
          exact sW _ _ (s4 _ _ e)
        · rw [List.take_add_one, ht, List.map_append]
          exact paired_snocS (L2.Paired.mapP p4 fun _ _ y => y.keep ((keepN_of sW).trans kD)) ⟨W, x', x, z, rfl, by rw [upd_ne nW]; exact upd_same, tv'.keep ((keepN_of (s4.trans sW)).trans kD), ia2.keep kA.t, ib2.keep kA.t⟩
      obtain ⟨s4, zs, e4, p4⟩ := h
      rw [lpa, List.take_length] at p4
      refine back D zs H4 _ (s3.trans s4) e4 p4 (fun i mi => ?_) (by rw [szW_map0]; exact szk) ?_
      · obtain ⟨t', mt, rfl⟩ := List.mem_map.mp mi
        exact ⟨okL_mem okk t' mt, raok, rbok⟩
      · rw [hrem]
        exact ⟨fun h t' mt => h _ (List.mem_map.mpr ⟨t', mt, rfl⟩), fun h i mi => by
          obtain ⟨t', mt, rfl⟩ := List.mem_map.mp mi
          exact h t' mt⟩
    · obtain ⟨⟨hev, hlen⟩, okk⟩ := ndok
      have szt : (Tr.turn pl ds ts).sz = 1 + szTs ts := rfl
      have kl := okL_len ts
      have lpa := pa.len
      have lrok : Rok (lastRow ds) := fun v' k' e => ⟨lastRow_evp e hev, by have := (lastRow_len e).1; omega⟩
      have dsok : ∀ j : Int, Rok (some (ds, j)) := fun j v' k' e => by cases e; exact ⟨hev, hlen⟩
      have rem0 : (Tr.turn pl ds ts).rem ra rb ↔ lastRow ds = (if pl = 1 then ra else rb) ∧ remT ts pl ds 0 ra rb := Iff.rfl
      refine ⟨_, rfl, .ref a, .ref T.C_Turn, .ref T.C_Turn, .ref T.C_Turn, true, rfl, .own _, ins_ty T.ic_Turn ea, T.ic_Turn.me, _, rfl, iteF ?_⟩
      refine ⟨_, rfl, a, T.C_Turn, dx, _, .ref w', rfl, ea, T.cl_Turn, T.n_Turn_view, rfl, ?_⟩
      dsimp only [tNil, List.append_nil]
      refine lr_one T iw hev hlen fun lv H3 s3 i3 => ?_
      have no : lastRow ds ≠ (if pl = 1 then ra else rb) → ¬ t.rem none none := fun h hr => h ((rem0.mp (r1.mpr hr _ (List.mem_append_right _ List.mem_cons_self))).1)
      by_cases pl1 : pl = 1
      · rw [if_pos pl1] at no rem0
        refine ⟨_, rfl, a, T.C_Turn, dx, _, .int pl, rfl, s3 _ _ ea, T.cl_Turn, T.n_Turn_player, rfl, rfl, _, rfl, ite2 (fun _ => ?_) (fun c => absurd (decide_eq_true (by rw [pl1])) c)⟩
        refine ⟨_, rfl, _, _, i3.dp, (ia2.keep (keepT_of s3)).dp, (rowD_lay lrok).shaped (by omega), (rowD_lay raok).shaped (by omega), _, rfl, ite2 (fun d => ?_) (fun d => ?_)⟩
        · exact q false _ (b2.trans s3) ⟨fun z => (by cases z), fun hr => absurd hr (no ((rows_ne lrok raok).mp d))⟩
        · have eq : lastRow ds = ra := Classical.byContradiction fun z => d ((rows_ne lrok raok).mpr z)
          refine ⟨_, rfl, a, T.C_Turn, dx, _, .int pl, rfl, s3 _ _ ea, T.cl_Turn, T.n_Turn_player, rfl, rfl, _, rfl, ite2 (fun _ => ?_) (fun c => absurd (decide_eq_true (by rw [pl1])) c)⟩
          have pa3 := pa.same s3
          have hu3 := s3 _ _ hu
          refine ⟨_, rfl, .inl ⟨rfl, _, SqL.of (s3 _ _ e2)⟩, _, rfl, a, T.C_Turn, dx, _, .ref u, rfl, s3 _ _ ea, T.cl_Turn, T.n_Turn_parts, rfl, u, _, rfl, hu3, fun D hD => ?_⟩
          refine lc_enumT (a := u) (xs := vs) (fun i H' => Same H3 H' ∧ ∃ zs, H' D = some (.lst zs) ∧ Paired (WtV T.C_End T.C_Lot T.C_Turn H') zs ((ts.mapIdx fun i t => ((t, some (ds, ((i : Nat) : Int)), rb) : Wt)).take i)) ⟨same_upd hD, [], upd_same, .nil⟩ (fun i H' _ h => h.1 _ _ hu3) (fun i x' H4 W0 hx h fW0 => ?_) (fun H4 h => ?_)
          · obtain ⟨s4, zs, e4, p4⟩ := h
            obtain ⟨t', ht, tv'⟩ := pa3.get hx
            have lz := paired_lenS p4
            rw [List.length_take, List.length_mapIdx] at lz
            have sW0 := same_upd (o := .tup [V.int ((i : Nat) : Int), x']) fW0
            refine ⟨W0, _, rfl, SqT.of upd_same, rfl, _, _, rfl, _, _, rfl, rfl, rfl, ?_⟩
            refine ⟨_, rfl, _, rfl, a, T.C_Turn, dx, _, .ref w', rfl, sW0 _ _ (s4 _ _ (s3 _ _ ea)), T.cl_Turn, T.n_Turn_view, rfl, _, rfl, by show 2 ≤ sizeLine; decide, fun R fR => ⟨_, rfl, by show 3 ≤ sizeLine; decide, fun W fW => ?_⟩⟩
            have sR := same_upd (o := .tup [V.ref w', .int ((i : Nat) : Int)]) fR
            have sW := same_upd (o := .tup [x', .ref R, z]) fW
            have e5 := sW _ _ (sR _ _ (sW0 _ _ e4))
            have nW : W ≠ D := (ne_of_none (sR _ _ (sW0 _ _ e4)) fW).symm
            have kD := keepN_lst (ys := zs ++ [.ref W]) e5
            have s45 := (sW0.trans sR).trans sW
            have kA := (keepN_of ((s3.trans s4).trans s45)).trans kD
            have nR : R ≠ D := (ne_of_none (sW0 _ _ e4) fR).symm
            refine ⟨zs, e5, Nat.lt_of_le_of_lt (show zs.length ≤ 999 by omega) (small1000 (by omega)), fun b o e => ?_, zs ++ [.ref W], upd_same, ?_⟩
            · rw [upd_ne (ne_of_none e hD)]
              exact s45 _ _ (s4 _ _ e)
            · rw [take_mapIdx ht]
              have iR : Im (upd (upd (upd (upd H4 W0 (.tup [V.int ((i : Nat) : Int), x'])) R (.tup [V.ref w', .int ((i : Nat) : Int)])) W (.tup [x', .ref R, z])) D (.lst (zs ++ [.ref W]))) (.ref R) (rowD (some (ds, ((i : Nat) : Int)))) := .tup (by rw [upd_ne nR]; exact sW _ _ upd_same) (.cons (iw.keep kA.t) (.cons (.int _) .nil))
              exact paired_snocS (L2.Paired.mapP p4 fun _ _ y => y.keep ((keepN_of s45).trans kD)) ⟨W, x', _, _, rfl, by rw [upd_ne nW]; exact upd_same, tv'.keep ((keepN_of (s4.trans s45)).trans kD), iR, ib2.keep kA.t⟩
          obtain ⟨s4, zs, e4, p4⟩ := h
          rw [List.take_of_length_le (by rw [List.length_mapIdx]; omega)] at p4
          have szm := szW_map (fun t i => ((t, some (ds, ((i : Nat) : Int)), rb) : Wt)) (fun _ _ => rfl) ts 0
          simp only [Nat.zero_add] at szm
          refine back D zs H4 _ (s3.trans s4) e4 p4 (fun i mi => ?_) (by rw [szm]; omega) ?_
          · obtain ⟨j, hj, rfl⟩ := List.mem_mapIdx.mp mi
            exact ⟨okL_mem okk _ (List.getElem_mem _), dsok _, rbok⟩
          · rw [rem0, remT_iff]
            constructor
            · intro h
              refine ⟨eq, fun j t' e => ?_⟩
              have hj := (List.getElem?_eq_some_iff.mp e)
              obtain ⟨hj1, hj2⟩ := hj
              have := h _ (List.mem_mapIdx.mpr ⟨j, hj1, rfl⟩)
              rw [if_pos pl1, if_pos pl1, Nat.zero_add]
              rw [hj2] at this
              exact this
            · rintro ⟨_, h⟩ i mi
              obtain ⟨j, hj, rfl⟩ := List.mem_mapIdx.mp mi
              have := h j ts[j] (List.getElem?_eq_getElem hj)
              rw [if_pos pl1, if_pos pl1, Nat.zero_add] at this
              exact this
      · rw [if_neg pl1] at no rem0
        refine ⟨_, rfl, a, T.C_Turn, dx, _, .int pl, rfl, s3 _ _ ea, T.cl_Turn, T.n_Turn_player, rfl, rfl, _, rfl, ite2 (fun c => absurd (V.int.inj (of_decide_eq_true c)) pl1) (fun _ => ?_)⟩
        refine ⟨_, rfl, _, _, i3.dp, (ib2.keep (keepT_of s3)).dp, (rowD_lay lrok).shaped (by omega), (rowD_lay rbok).shaped (by omega), _, rfl, ite2 (fun d => ?_) (fun d => ?_)⟩
        · exact q false _ (b2.trans s3) ⟨fun z => (by cases z), fun hr => absurd hr (no ((rows_ne lrok rbok).mp d))⟩
        · have eq : lastRow ds = rb := Classical.byContradiction fun z => d ((rows_ne lrok rbok).mpr z)
          refine ⟨_, rfl, a, T.C_Turn, dx, _, .int pl, rfl, s3 _ _ ea, T.cl_Turn, T.n_Turn_player, rfl, rfl, _, rfl, ite2 (fun c => absurd (V.int.inj (of_decide_eq_true c)) pl1) (fun _ => ?_)⟩
          have pa3 := pa.same s3
          have hu3 := s3 _ _ hu
          refine ⟨_, rfl, .inl ⟨rfl, _, SqL.of (s3 _ _ e2)⟩, _, rfl, a, T.C_Turn, dx, _, .ref u, rfl, s3 _ _ ea, T.cl_Turn, T.n_Turn_parts, rfl, u, _, rfl, hu3, fun D hD => ?_⟩
          refine lc_enumT (a := u) (xs := vs) (fun i H' => Same H3 H' ∧ ∃ zs, H' D = some (.lst zs) ∧ Paired (WtV T.C_End T.C_Lot T.C_Turn H') zs ((ts.mapIdx fun i t => ((t, ra, some (ds, ((i : Nat) : Int))) : Wt)).take i)) ⟨same_upd hD, [], upd_same, .nil⟩ (fun i H' _ h => h.1 _ _ hu3) (fun i x' H4 W0 hx h fW0 => ?_) (fun H4 h => ?_)
          · obtain ⟨s4, zs, e4, p4⟩ := h
            obtain ⟨t', ht, tv'⟩ := pa3.get hx
            have lz := paired_lenS p4
            rw [List.length_take, List.length_mapIdx] at lz
            have sW0 := same_upd (o := .tup [V.int ((i : Nat) : Int), x']) fW0
            refine ⟨W0, _, rfl, SqT.of upd_same, rfl, _, _, rfl, _, _, rfl, rfl, rfl, ?_⟩
            refine ⟨_, rfl, _, rfl, _, rfl, a, T.C_Turn, dx, _, .ref w', rfl, sW0 _ _ (s4 _ _ (s3 _ _ ea)), T.cl_Turn, T.n_Turn_view, rfl, _, rfl, by show 2 ≤ sizeLine; decide, fun R fR => ⟨by show 3 ≤ sizeLine; decide, fun W fW => ?_⟩⟩
            have sR := same_upd (o := .tup [V.ref w', .int ((i : Nat) : Int)]) fR
            have sW := same_upd (o := .tup [x', x, .ref R]) fW
            have e5 := sW _ _ (sR _ _ (sW0 _ _ e4))
            have nW : W ≠ D := (ne_of_none (sR _ _ (sW0 _ _ e4)) fW).symm
            have kD := keepN_lst (ys := zs ++ [.ref W]) e5
            have s45 := (sW0.trans sR).trans sW
            have kA := (keepN_of ((s3.trans s4).trans s45)).trans kD
            have nR : R ≠ D := (ne_of_none (sW0 _ _ e4) fR).symm
            refine ⟨zs, e5, Nat.lt_of_le_of_lt (show zs.length ≤ 999 by omega) (small1000 (by omega)), fun b o e => ?_, zs ++ [.ref W], upd_same, ?_⟩
            · rw [upd_ne (ne_of_none e hD)]
              exact s45 _ _ (s4 _ _ e)
            · rw [take_mapIdx ht]
              have iR : Im (upd (upd (upd (upd H4 W0 (.tup [V.int ((i : Nat) : Int), x'])) R (.tup [V.ref w', .int ((i : Nat) : Int)])) W (.tup [x', x, .ref R])) D (.lst (zs ++ [.ref W]))) (.ref R) (rowD (some (ds, ((i : Nat) : Int)))) := .tup (by rw [upd_ne nR]; exact sW _ _ upd_same) (.cons (iw.keep kA.t) (.cons (.int _) .nil))
              exact paired_snocS (L2.Paired.mapP p4 fun _ _ y => y.keep ((keepN_of s45).trans kD)) ⟨W, x', _, _, rfl, by rw [upd_ne nW]; exact upd_same, tv'.keep ((keepN_of (s4.trans s45)).trans kD), ia2.keep kA.t, iR⟩
          obtain ⟨s4, zs, e4, p4⟩ := h
          rw [List.take_of_length_le (by rw [List.length_mapIdx]; omega)] at p4
          have szm := szW_map (fun t i => ((t, ra, some (ds, ((i : Nat) : Int))) : Wt)) (fun _ _ => rfl) ts 0
          simp only [Nat.zero_add] at szm
          refine back D zs H4 _ (s3.trans s4) e4 p4 (fun i mi => ?_) (by rw [szm]; omega) ?_
          · obtain ⟨j, hj, rfl⟩ := List.mem_mapIdx.mp mi
            exact ⟨okL_mem okk _ (List.getElem_mem _), raok, dsok _⟩
          · rw [rem0, remT_iff]
            constructor
            · intro h
              refine ⟨eq, fun j t' e => ?_⟩
              have hj := (List.getElem?_eq_some_iff.mp e)
              obtain ⟨hj1, hj2⟩ := hj
              have := h _ (List.mem_mapIdx.mpr ⟨j, hj1, rfl⟩)
              rw [if_neg pl1, if_neg pl1, Nat.zero_add]
              rw [hj2] at this
              exact this
            · rintro ⟨_, h⟩ i mi
              obtain ⟨j, hj, rfl⟩ := List.mem_mapIdx.mp mi
              have := h j ts[j] (List.getElem?_eq_getElem hj)
              rw [if_neg pl1, if_neg pl1, Nat.zero_add] at this
              exact this
  · have n1 : xs = [] := by
      cases xs with
      | nil => rfl
      | cons _ _ => exact absurd rfl c
    subst n1
    cases p1
    exact q true H1 s1 ⟨fun _ => r1.mp fun i m => (by cases m), fun _ => rfl⟩
/-! ### _law_cell -/
def sp_law_cell (T : Txt K mg) : Sp := fun vs H Q _ => ∃ (a : Addr) (ns : List Int) (k : Int), vs = [.ref a, .int k] ∧ SqL K H a (ns.map V.int) ∧ 0 ≤ k ∧ Q (.int (cell ns k)) H

theorem ok_law_cell (T : Txt K mg) : FnOk P w K mg base CX0 1 T.a_law_cell T.d_law_cell ["script", "k"] (sp_law_cell T) := by
  refine T.F_law_cell.ok sc_law_cell (fun vs H Q E h => ?_) (fun cdv A outer s H vs Q E hr h => ?_)
  · obtain ⟨a, ns, k, rfl, _⟩ := h
    rfl
  obtain ⟨a, ns, k, rfl, hS, hk, q⟩ := h
  refine ⟨_, (pss_cons (ps_if (pt_cmpR op_lt (pv 1) (pe_callB call_len_seq (by rfl) T.z_len (by first | exact PySem.boot_len | decide +kernel) (pa_cons (pv 0) pa_nil)) (nomark _)) (pss_one (ps_ret (pe_ix ix_list (pv 0) (pv 1) (fun _ _ => rfl)))) pss_nil)
      (pss_one (ps_ret pe_int))), ?_⟩
  refine ⟨_, rfl, _, rfl, a, _, rfl, .inl hS, _, _, rfl, rfl, _, rfl, ite2 (fun c => ?_) (fun c => ?_)⟩
  · have c' : k < (((ns.map V.int).length : Nat) : Int) := of_decide_eq_true c
    rw [List.length_map] at c'
    have hlt : k.toNat < ns.length := by omega
    refine ⟨_, rfl, _, rfl, a, _, k, .int (cell ns k), rfl, rfl, hS, at_of (j := k.toNat) (by omega) ?_, q⟩
    rw [List.getElem?_map, List.getElem?_eq_getElem hlt]
    unfold cell
    rw [List.getD_eq_getElem?_getD, List.getElem?_eq_getElem hlt]
    rfl
  · have c' : ¬ k < (((ns.map V.int).length : Nat) : Int) := fun z => c (decide_eq_true z)
    rw [List.length_map] at c'
    have e : cell ns k = 0 := by
      unfold cell
      rw [List.getD_eq_getElem?_getD, List.getElem?_eq_none (by omega)]
      rfl
    rw [e] at q
    exact q
/-! ### _law_row -/
def IntL (H : Hp) (p : Addr) (ns : List Int) : Prop := H p = some (.lst (ns.map V.int))
def sp_law_row (T : Txt K mg) : Sp := fun vs H Q _ => ∃ (cl : Int) (n : Nat) (z : Int), vs = [.int cl, .int ((n : Nat) : Int), .int z] ∧ n ≤ 100 ∧ 0 < z ∧ z ≤ 100 ∧
  ∀ (p : Addr) (ns : List Int) (H' : Hp), Same H H' → H p = none → IntL H' p ns → ns.length = n → (∀ x ∈ ns, 0 ≤ x ∧ x < z) → Q (.ref p) H'

theorem ok_law_row (T : Txt K mg) : FnOk P w K mg base CX0 1 T.a_law_row T.d_law_row ["cell", "count", "size"] (sp_law_row T) := by
  refine T.F_law_row.ok sc_law_row (fun vs H Q E h => ?_) (fun cdv A outer s H vs Q E hr h => ?_)
  · obtain ⟨cl, n, z, rfl, _⟩ := h
    rfl
  obtain ⟨cl, n, z, rfl, hn, h0, h1, q⟩ := h
  refine ⟨_, (pss_cons (ps_set (i := 3) sc_law_row.nd rfl (by first | exact Or.inl rfl | exact Or.inr rfl) (pv 0))
      (pss_cons (ps_set (i := 4) sc_law_row.nd rfl (by first | exact Or.inl rfl | exact Or.inr rfl) (pe_lst pa_nil))
      (pss_cons (ps_for PassesOwn.never rfl (pi_range1 (by rfl) T.z_range (pa_cons (pv 1) pa_nil)) (pg_name (i := 5) sc_law_row.nd rfl (by first | exact Or.inl rfl | exact Or.inr rfl)) (pss_one (ps_if (pt_cmpR op_ge (pv 0) (pe_op op_pow pe_int pe_int) (nomark _)) (pss_cons (ps_expr (pe_bm PySem.F.plainAttrs_list PySem.F.slot_list_append PySem.F.type_list_append mt_append (pv 4) (pa_cons (pe_op op_mod (pe_callTy call_int1 (by rfl) T.z_int (by first | exact PySem.boot_int | decide +kernel) (pa_cons (pv 3) pa_nil)) (pv 2)) pa_nil)))
      (pss_one (ps_set (i := 3) sc_law_row.nd rfl (by first | exact Or.inl rfl | exact Or.inr rfl) (pe_op op_fdiv (pv 3) (pv 2))))) (pss_cons (ps_set (i := 3) sc_law_row.nd rfl (by first | exact Or.inl rfl | exact Or.inr rfl) (pe_op op_mod (pe_callTy call_int1 (by rfl) T.z_int (by first | exact PySem.boot_int | decide +kernel) (pa_cons (pe_op op_add (pe_op op_mul (pv 3) pe_int) pe_int) pa_nil)) pe_int))
      (pss_one (ps_expr (pe_bm PySem.F.plainAttrs_list PySem.F.slot_list_append PySem.F.type_list_append mt_append (pv 4) (pa_cons (pe_op op_mod (pe_op op_mod (pe_callTy call_int1 (by rfl) T.z_int (by first | exact PySem.boot_int | decide +kernel) (pa_cons (pe_op op_add (pe_op op_mul (pv 3) pe_int) (pe_op op_mul (pv 5) pe_int)) pa_nil)) pe_int) (pv 2)) pa_nil))))))))
      (pss_one (ps_ret (pv 4)))))), ?_⟩
  refine ⟨_, rfl, by show 0 ≤ sizeLine; decide, fun R fR => ?_⟩
  have sR := same_upd (o := .lst []) fR
  refine ⟨_, rfl, ((n : Nat) : Int), rfl, by omega, by omega, for_range (fun i σ' H' => ∃ (st : Int) (y : Option V) (ns : List Int), σ' = [some (.int cl), some (.int ((n : Nat) : Int)), some (.int z), some (.int st), some (.ref R), y] ∧ Same H H' ∧ IntL H' R ns ∧ ns.length = i ∧ ∀ x ∈ ns, 0 ≤ x ∧ x < z) ⟨cl, _, [], rfl, sR, upd_same, rfl, fun _ m => by cases m⟩ ?_ ?_⟩
  · rintro i σ1 H1 hi ⟨st, y, ns, rfl, s1, e1, l1, b1⟩
    have fin : ∀ x : Int, 0 ≤ x → x < z → ∀ (st' : Int) (y' : Option V), ∃ (st : Int) (y : Option V) (ns' : List Int), [some (V.int cl), some (.int ((n : Nat) : Int)), some (.int z), some (.int st'), some (.ref R), y'] = [some (.int cl), some (.int ((n : Nat) : Int)), some (.int z), some (.int st), some (.ref R), y] ∧ Same H (upd H1 R (.lst (ns.map V.int ++ [V.int x]))) ∧ IntL (upd H1 R (.lst (ns.map V.int ++ [V.int x]))) R ns' ∧ ns'.length = i + 1 ∧ ∀ x ∈ ns', 0 ≤ x ∧ x < z := fun x x0 x1 st' y' => by
      refine ⟨st', y', ns ++ [x], rfl, fun b o e => ?_, ?_, by rw [List.length_append, l1]; rfl, fun w m => ?_⟩
      · rw [upd_ne (ne_of_none e fR)]
        exact s1 _ _ e
      · unfold IntL
        rw [upd_same, List.map_append]
        rfl
      · rcases List.mem_append.mp m with m | m
        · exact b1 w m
        · rw [List.mem_singleton.mp m]
          exact ⟨x0, x1⟩
    have sm : (ns.map V.int).length < sizeLine := Nat.lt_of_le_of_lt (show (ns.map V.int).length ≤ 999 by rw [List.length_map]; omega) (small1000 (by omega))
    refine ⟨_, rfl, _, _, rfl, rfl, ⟨by decide, by decide, by decide⟩, _, _, rfl, rfl, _, rfl, ite2 (fun _ => ?_) (fun _ => ?_)⟩
    · refine ⟨_, rfl, .inl ⟨rfl, _, SqL.of e1⟩, _, rfl, .inl ⟨_, rfl, _, rfl, _, _, rfl, rfl, h0, R, _, _, rfl, rfl, e1, sm, ?_⟩⟩
      exact ⟨_, rfl, _, rfl, _, _, rfl, rfl, ⟨h0, by omega⟩, fin (st % z) (Int.emod_nonneg _ (by omega)) (Int.emod_lt_of_pos _ h0) _ _⟩
    · refine ⟨_, rfl, _, _, rfl, rfl, .inr ⟨by decide, by decide⟩, _, _, rfl, rfl, .inl ⟨_, rfl, _, _, rfl, rfl, by show (0 : Int) < 2147483647; decide, ?_⟩⟩
      refine ⟨_, rfl, .inl ⟨rfl, _, SqL.of e1⟩, _, rfl, _, _, rfl, rfl, .inr ⟨by decide, by decide⟩, _, rfl, _, _, rfl, rfl, .inr ⟨by decide, by decide⟩, _, _, rfl, rfl, .inl ⟨_, rfl, _, _, rfl, rfl, by show (0 : Int) < 2147483647; decide, _, rfl, _, _, rfl, rfl, h0, R, _, _, rfl, rfl, e1, sm, ?_⟩⟩
      exact fin _ (Int.emod_nonneg _ (by omega)) (Int.emod_lt_of_pos _ h0) _ _
  · rintro σ1 H1 ⟨st, y, ns, rfl, s1, e1, l1, b1⟩
    exact ⟨_, rfl, q R ns H1 s1 fR e1 (by omega) b1⟩
/-! ### _law_stages -/
def sp_law_stages (T : Txt K mg) : Sp := fun vs H Q _ => ∃ (a : Addr) (ns : List Int) (most : Int), vs = [.ref a, .int most] ∧ SqL K H a (ns.map V.int) ∧ 1 ≤ most ∧ most ≤ 100 ∧
  ∀ (p : Addr) (ss : List Sg) (H' : Hp), Same H H' → H p = none → StgsV H' p ss → (∀ s ∈ ss, SgOk s) → ss.length ≤ 4 → Q (.ref p) H'

theorem ok_law_stages (T : Txt K mg) : FnOk P w K mg base CX0 2 T.a_law_stages T.d_law_stages ["script", "most"] (sp_law_stages T) := by
  refine T.F_law_stages.ok sc_law_stages (fun vs H Q E h => ?_) (fun cdv A outer s H vs Q E hr h => ?_)
  · obtain ⟨a, ns, most, rfl, _⟩ := h
    rfl
  obtain ⟨a, ns, most, rfl, hS, m0, m1, q⟩ := h
  refine ⟨_, (pss_cons (ps_set (i := 2) sc_law_stages.nd rfl (by first | exact Or.inl rfl | exact Or.inr rfl) (pe_lst pa_nil))
      (pss_cons (ps_set (i := 3) sc_law_stages.nd rfl (by first | exact Or.inl rfl | exact Or.inr rfl) pe_int)
      (pss_cons (ps_set (i := 4) sc_law_stages.nd rfl (by first | exact Or.inl rfl | exact Or.inr rfl) (pe_call (ok_law_row T) (hr.mono (by decide)) (by rfl) T.m_law_row T.F_law_row.kp T.b_law_row .nil pass0 (pa_cons (pe_call (ok_law_cell T) (hr.mono (by decide)) (by rfl) T.m_law_cell T.F_law_cell.kp T.b_law_cell .nil pass0 (pa_cons (pv 0) (pa_cons pe_int pa_nil))) (pa_cons pe_int (pa_cons pe_int pa_nil)))))
      (pss_cons (ps_for PassesOwn.never rfl (pi_range1 (by rfl) T.z_range (pa_cons (pe_op op_mod (pe_callTy call_int1 (by rfl) T.z_int (by first | exact PySem.boot_int | decide +kernel) (pa_cons (pe_ix ix_list (pv 4) pe_int (fun _ _ => rfl)) pa_nil)) pe_int) pa_nil)) (pg_name (i := 5) sc_law_stages.nd rfl (by first | exact Or.inl rfl | exact Or.inr rfl)) (pss_cons (ps_set (i := 6) sc_law_stages.nd rfl (by first | exact Or.inl rfl | exact Or.inr rfl) (pe_op op_add pe_int (pe_op op_mod (pe_callTy call_int1 (by rfl) T.z_int (by first | exact PySem.boot_int | decide +kernel) (pa_cons (pe_ix ix_list (pv 4) (pe_op op_add (pe_op op_mul pe_int (pv 5)) pe_int) (fun _ _ => rfl)) pa_nil)) pe_int)))
      (C8.pss_cut (ps_if (pt_cmpR op_gt (pe_op op_mul (pv 3) (pv 6)) (pv 1) (nomark _)) (pss_one (ps_set (i := 6) sc_law_stages.nd rfl (by first | exact Or.inl rfl | exact Or.inr rfl) pe_int)) pss_nil)
      (pss_cons (ps_set (i := 3) sc_law_stages.nd rfl (by first | exact Or.inl rfl | exact Or.inr rfl) (pe_op op_mul (pv 3) (pv 6)))
      (pss_cons (ps_set (i := 7) sc_law_stages.nd rfl (by first | exact Or.inl rfl | exact Or.inr rfl) (pe_ix ix_tup (pe_tup (pa_cons pe_int (pa_cons pe_int (pa_cons pe_int (pa_cons pe_int (pa_cons pe_int pa_nil)))))) (pe_op op_mod (pe_callTy call_int1 (by rfl) T.z_int (by first | exact PySem.boot_int | decide +kernel) (pa_cons (pe_ix ix_list (pv 4) (pe_op op_add (pe_op op_mul pe_int (pv 5)) pe_int) (fun _ _ => rfl)) pa_nil)) pe_int) (fun _ _ => rfl)))
      (pss_one (ps_expr (pe_bm PySem.F.plainAttrs_list PySem.F.slot_list_append PySem.F.type_list_append mt_append (pv 2) (pa_cons (pe_tup (pa_cons (pe_op op_mod (pe_callTy call_int1 (by rfl) T.z_int (by first | exact PySem.boot_int | decide +kernel) (pa_cons (pe_ix ix_list (pv 4) (pe_op op_add (pe_op op_mul pe_int (pv 5)) pe_int) (fun _ _ => rfl)) pa_nil)) pe_int) (pa_cons (pv 6) (pa_cons (pv 7) (pa_cons (pe_cmpR op_eq (pe_op op_mod (pe_callTy call_int1 (by rfl) T.z_int (by first | exact PySem.boot_int | decide +kernel) (pa_cons (pe_ix ix_list (pv 4) (pe_op op_add (pe_op op_mul pe_int (pv 5)) pe_int) (fun _ _ => rfl)) pa_nil)) pe_int) pe_int (nomark _)) pa_nil))))) pa_nil)))))))))
      (pss_one (ps_ret (pv 2))))))), ?_⟩
  refine ⟨by show 0 ≤ sizeLine; decide, fun S fS => ?_⟩
  have sS := same_upd (o := .lst []) fS
  refine ⟨_, rfl, a, ns, 0, rfl, sS.seq hS, by decide, cell ns 0, 20, 60, rfl, by decide, by decide, by decide, fun D ds H1 s1 fD eD lD bD => ?_⟩
  have nDS : D ≠ S := fun z => by rw [z, upd_same] at fD; cases fD
  have eS1 := s1 _ _ (upd_same (H := H) (a := S) (o := .lst []))
  have dig : ∀ (i : Nat) (e : Int), e = ((i : Nat) : Int) → i < 20 → ∃ d, atI (ds.map V.int) e = some (.int d) ∧ 0 ≤ d := fun i e he hi => by
    have g : ds[i]? = some ds[i] := List.getElem?_eq_getElem (by omega)
    refine ⟨ds[i], at_ofG he (by rw [List.getElem?_map, g]; rfl), (bD _ (List.getElem_mem _)).1⟩
  obtain ⟨d0, at0, _⟩ := dig 0 0 rfl (by decide)
  have r5 : 0 ≤ d0 % 5 := Int.emod_nonneg _ (by decide)
  have r5' : d0 % 5 < 5 := Int.emod_lt_of_pos _ (by decide)
  refine ⟨_, rfl, D, _, 0, .int d0, rfl, rfl, SqL.of eD, at0, .inl ⟨_, rfl, _, _, rfl, rfl, by show (0 : Int) < 5; decide, _, rfl, by omega, by omega, for_range (fun i σ' H' => ∃ (c : Int) (y5 y6 y7 : Option V) (vs : List V) (ss : List Sg), σ' = [some (.ref a), some (.int most), some (.ref S), some (.int c), some (.ref D), y5, y6, y7] ∧ Same H H' ∧ IntL H' D ds ∧ H' S = some (.lst vs) ∧ Paired (StgV H') vs ss ∧ ss.length = i ∧ (∀ s ∈ ss, SgOk s) ∧ 1 ≤ c ∧ c ≤ most) ⟨1, _, _, _, [], [], rfl, sS.trans s1, eD, eS1, .nil, rfl, (fun _ m => by cases m), by decide, m0⟩ ?_ ?_⟩⟩
  · rintro i σ2 H2 hi ⟨c, y5, y6, y7, vs, ss, rfl, s2, e2, v2, p2, l2, b2, c0, c1⟩
    have i4 : i < 4 := by omega
    obtain ⟨d1, at1, _⟩ := dig (4 * i + 1) (4 * (0 + (i : Int)) + 1) (by omega) (by omega)
    obtain ⟨d2, at2, _⟩ := dig (4 * i + 2) (4 * (0 + (i : Int)) + 2) (by omega) (by omega)
    obtain ⟨d3, at3, _⟩ := dig (4 * i + 3) (4 * (0 + (i : Int)) + 3) (by omega) (by omega)
    obtain ⟨d4, at4, _⟩ := dig (4 * i + 4) (4 * (0 + (i : Int)) + 4) (by omega) (by omega)
    have z0 : 0 ≤ d1 % 3 := Int.emod_nonneg _ (by decide)
    have z1 : d1 % 3 < 3 := Int.emod_lt_of_pos _ (by decide)
    refine ⟨_, rfl, _, rfl, _, _, rfl, rfl, .inl ⟨by omega, by omega⟩, _, _, rfl, rfl, D, _, _, .int d1, rfl, rfl, SqL.of e2, at1, .inl ⟨_, rfl, _, _, rfl, rfl, by show (0 : Int) < 3; decide, _, _, rfl, rfl, ?_⟩⟩
    refine ⟨fun σ' H' => ∃ sz : Int, σ' = [some (.ref a), some (.int most), some (.ref S), some (.int c), some (.ref D), some (.int (0 + (i : Int))), some (.int sz), y7] ∧ H' = H2 ∧ 1 ≤ sz ∧ sz ≤ 3 ∧ c * sz ≤ most, ?_, ?_⟩
    · refine ⟨_, rfl, _, rfl, _, _, rfl, rfl, .inl ⟨by omega, by omega⟩, _, rfl, _, _, rfl, rfl, _, rfl, ite2 (fun _ => ⟨1, rfl, rfl, by decide, by decide, by omega⟩) (fun x => ⟨_, rfl, rfl, by omega, by omega, ?_⟩)⟩
      have : ¬ most < c * (1 + d1 % 3) := fun z => x (decide_eq_true z)
      omega
    rintro σ3 H3 ⟨sz, rfl, rfl, q0, q1, cm⟩
    have c01 : 1 ≤ c * sz := by
      have := Int.mul_le_mul_of_nonneg_left q0 (show 0 ≤ c by omega)
      omega
    refine ⟨_, rfl, _, rfl, _, _, rfl, rfl, .inl ⟨by omega, by omega⟩, by show 5 ≤ sizeLine; decide, fun X fX => ?_⟩
    have sX := same_upd (o := .tup [V.int 0, .int 0, .int 1, .int 2, .int 3]) fX
    have w0 : 0 ≤ d2 % 5 := Int.emod_nonneg _ (by decide)
    have w1 : d2 % 5 < 5 := Int.emod_lt_of_pos _ (by decide)
    obtain ⟨sh, atsh, h0, h3⟩ : ∃ sh, atI [V.int 0, .int 0, .int 1, .int 2, .int 3] (d2 % 5) = some (.int sh) ∧ 0 ≤ sh ∧ sh ≤ 3 := by
      have : d2 % 5 = 0 ∨ d2 % 5 = 1 ∨ d2 % 5 = 2 ∨ d2 % 5 = 3 ∨ d2 % 5 = 4 := by omega
      rcases this with e | e | e | e | e <;> rw [e]
      · exact ⟨0, atI_nat (j := 0) rfl, by decide, by decide⟩
      · exact ⟨0, atI_nat (j := 1) rfl, by decide, by decide⟩
      · exact ⟨1, atI_nat (j := 2) rfl, by decide, by decide⟩
      · exact ⟨2, atI_nat (j := 3) rfl, by decide, by decide⟩
      · exact ⟨3, atI_nat (j := 4) rfl, by decide, by decide⟩
    refine ⟨_, rfl, _, rfl, _, _, rfl, rfl, .inl ⟨by omega, by omega⟩, _, _, rfl, rfl, D, _, _, .int d2, rfl, rfl, SqL.of (sX _ _ e2), at2, .inl ⟨_, rfl, _, _, rfl, rfl, by show (0 : Int) < 5; decide, X, _, _, .int sh, rfl, rfl, SqT.of upd_same, atsh, ?_⟩⟩
    refine ⟨_, rfl, .inl ⟨rfl, _, SqL.of (sX _ _ v2)⟩, _, rfl, _, rfl, _, _, rfl, rfl, .inl ⟨by omega, by omega⟩, _, _, rfl, rfl, D, _, _, .int d3, rfl, rfl, SqL.of (sX _ _ e2), at3, .inl ⟨_, rfl, _, _, rfl, rfl, by show (0 : Int) < 3; decide, _, rfl, _, rfl, _, rfl, _, rfl, _, _, rfl, rfl, .inl ⟨by omega, by omega⟩, _, _, rfl, rfl, D, _, _, .int d4, rfl, rfl, SqL.of (sX _ _ e2), at4, .inl ⟨_, rfl, _, _, rfl, rfl, by show (0 : Int) < 3; decide, rfl, by show 4 ≤ sizeLine; decide, fun U fU => ?_⟩⟩⟩
    have sU := same_upd (o := .tup [V.int (d3 % 3), .int sz, .int sh, .bl (decide (V.int (d4 % 3) = V.int 1))]) fU
    have v3 := sU _ _ (sX _ _ v2)
    have lv := paired_lenS p2
    have nU : U ≠ S := (ne_of_none (sX _ _ v2) fU).symm
    have kW := keepT_lst (ys := vs ++ [V.ref U]) v3
    have kA := (keepT_of (sX.trans sU)).trans kW
    have b0 : 0 ≤ d3 % 3 := Int.emod_nonneg _ (by decide)
    have b1 : d3 % 3 < 3 := Int.emod_lt_of_pos _ (by decide)
    refine ⟨S, vs, _, rfl, rfl, v3, Nat.lt_of_le_of_lt (show vs.length ≤ 999 by omega) (small1000 (by omega)), c * sz, _, _, _, vs ++ [.ref U], ss ++ [(d3 % 3, sz, sh, decide (V.int (d4 % 3) = V.int 1))], rfl, fun b o e => ?_, ?_, upd_same, paired_snocS (L2.Paired.mapP p2 fun _ _ y => y.keep kA) ⟨U, rfl, by rw [upd_ne nU]; exact upd_same⟩, by rw [List.length_append, l2]; rfl, fun w m => ?_, c01, cm⟩
    · rw [upd_ne (ne_of_none e fS)]
      exact sU _ _ (sX _ _ (s2 _ _ e))
    · show upd _ _ _ D = _
      rw [upd_ne nDS]
      exact sU _ _ (sX _ _ e2)
    · rcases List.mem_append.mp m with m | m
      · exact b2 w m
      · rw [List.mem_singleton.mp m]
        exact ⟨⟨b0, b1⟩, ⟨q0, q1⟩, ⟨h0, h3⟩⟩
  · rintro σ2 H2 ⟨c, y5, y6, y7, vs, ss, rfl, s2, e2, v2, p2, l2, b2, c0, c1⟩
    exact ⟨_, rfl, q S ss H2 s2 fS ⟨vs, v2, p2⟩ b2 (by omega)⟩
/-! ### _law_paths -/
def sp_law_paths (T : Txt K mg) : Sp := fun vs H Q _ => ∃ (a : Addr) (ss : List Sg), vs = [.ref a] ∧ StgsV H a ss ∧ (∀ s ∈ ss, SgOk s) ∧ ss.length ≤ 4 ∧
  ∀ (p : Addr) (pv : List V) (H' : Hp), Same H H' → H p = none → H' p = some (.lst pv) → Paired (PthV H') pv (pathsOf ss) → Q (.ref p) H'

theorem ok_law_paths (T : Txt K mg) : FnOk P w K mg base CX0 1 T.a_law_paths T.d_law_paths ["stages"] (sp_law_paths T) := by
  refine T.F_law_paths.ok sc_law_paths (fun vs H Q E h => ?_) (fun cdv A outer s H vs Q E hr h => ?_)
  · obtain ⟨a, ss, rfl, _⟩ := h
    rfl
  obtain ⟨a, ss, rfl, ⟨vs, ha, pa⟩, hok, hl, q⟩ := h
  have la := paired_lenS pa
  refine ⟨_, (pss_cons (ps_set (i := 1) sc_law_paths.nd rfl (by first | exact Or.inl rfl | exact Or.inr rfl) (pe_lst (pa_cons (pe_lst pa_nil) pa_nil)))
      (pss_cons (ps_for PassesOwn.never rfl (pi_list (pv 0)) (pg_name (i := 2) sc_law_paths.nd rfl (by first | exact Or.inl rfl | exact Or.inr rfl)) (pss_cons (ps_set (i := 3) sc_law_paths.nd rfl (by first | exact Or.inl rfl | exact Or.inr rfl) (pe_lst pa_nil))
      (pss_cons (ps_for PassesOwn.never rfl (pi_list (pv 1)) (pg_name (i := 4) sc_law_paths.nd rfl (by first | exact Or.inl rfl | exact Or.inr rfl)) (pss_one (ps_for PassesOwn.never rfl (pi_range1 (by rfl) T.z_range (pa_cons (pe_ix ix_tup (pv 2) pe_int (fun _ _ => rfl)) pa_nil)) (pg_name (i := 5) sc_law_paths.nd rfl (by first | exact Or.inl rfl | exact Or.inr rfl)) (pss_one (ps_expr (pe_bm PySem.F.plainAttrs_list PySem.F.slot_list_append PySem.F.type_list_append mt_append (pv 3) (pa_cons (pe_op op_cat (pv 4) (pe_lst (pa_cons (pv 5) pa_nil))) pa_nil)))))))
      (pss_one (ps_set (i := 1) sc_law_paths.nd rfl (by first | exact Or.inl rfl | exact Or.inr rfl) (pv 3))))))
      (pss_one (ps_ret (pv 1))))), ?_⟩
  refine ⟨by show 0 ≤ sizeLine; decide, fun E0 fE => ⟨by show 1 ≤ sizeLine; decide, fun P fP => ?_⟩⟩
  have sE := same_upd (o := .lst []) fE
  have sP := same_upd (o := .lst [V.ref E0]) fP
  refine ⟨_, rfl, a, rfl, ⟨_, SqL.of ((sE.trans sP) _ _ ha)⟩, for_list (K := K) (a := a) (xs := vs) (fun i σ' H' => ∃ (P : Addr) (y2 y3 y4 y5 : Option V) (pv : List V), σ' = [some (.ref a), some (.ref P), y2, y3, y4, y5] ∧ Same H H' ∧ H P = none ∧ H' P = some (.lst pv) ∧ Paired (PthV H') pv (pathsOf (ss.take i))) ⟨P, _, _, _, _, _, rfl, sE.trans sP, noneB sE fP, upd_same, .cons ⟨E0, rfl, sP _ _ upd_same⟩ .nil⟩ (fun i σ' H' _ h => ?_) ?_ ?_⟩
  · obtain ⟨_, _, _, _, _, _, _, s1, _⟩ := h
    exact SqL.of (s1 _ _ ha)
  · rintro i x σ1 H1 hx ⟨P1, y2, y3, y4, y5, pv, rfl, s1, nP1, e1, p1⟩
    have il : i < ss.length := by have := (List.getElem?_eq_some_iff.mp hx).1; omega
    obtain ⟨sg, hsg, U, rfl, hU⟩ := pgetS pa hx
    obtain ⟨pl, pm⟩ := paths_len i hok (by omega)
    have p81 : 3 ^ i ≤ 27 := by
      have : i = 0 ∨ i = 1 ∨ i = 2 ∨ i = 3 := by omega
      rcases this with rfl | rfl | rfl | rfl <;> decide
    have sok := hok sg (List.mem_of_getElem? hsg)
    obtain ⟨n, en⟩ := Int.eq_ofNat_of_zero_le (show 0 ≤ sg.2.1 by have := sok.2.1.1; omega)
    have n3 : n ≤ 3 := by have := sok.2.1.2; omega
    have lp := paired_lenS p1
    refine ⟨by show 0 ≤ sizeLine; decide, fun L fL => ?_⟩
    have sL := same_upd (o := .lst []) fL
    have hLn : H L = none := noneB s1 fL
    have nPL : P1 ≠ L := ne_of_none e1 fL
    have p1' : Paired (PthN L (upd H1 L (.lst []))) pv (pathsOf (ss.take i)) := L2.Paired.mapP p1 fun _ _ y => by
      obtain ⟨u, e, t⟩ := y
      exact ⟨u, e, ne_of_none t fL, sL _ _ t⟩
    refine ⟨_, rfl, P1, rfl, ⟨_, SqL.of (sL _ _ e1)⟩, for_list (K := K) (a := P1) (xs := pv) (fun j σ' H' => ∃ (y4 y5 : Option V) (lv : List V), σ' = [some (.ref a), some (.ref P1), some (.ref U), some (.ref L), y4, y5] ∧ (∀ b o, b ≠ L → H1 b = some o → H' b = some o) ∧ H' L = some (.lst lv) ∧ Paired (PthN L H') pv (pathsOf (ss.take i)) ∧ Paired (PthN L H') lv (ext ((pathsOf (ss.take i)).take j) n)) ⟨_, _, [], rfl, (fun b o _ e => sL _ _ e), upd_same, p1', .nil⟩ (fun j σ' H' _ h => ?_) ?_ ?_⟩
    · obtain ⟨_, _, _, _, s2, _⟩ := h
      exact SqL.of (s2 _ _ nPL e1)
    · rintro j x σ2 H2 hx2 ⟨y4, y5, lv, rfl, s2, e2, q2, r2⟩
      obtain ⟨p, hp, B, rfl, nB, hB⟩ := pgetS q2 hx2
      have lr2 := paired_lenS r2
      rw [ext_len, List.length_take] at lr2
      have pj := pm p (List.mem_of_getElem? hp)
      have lrs : lr2 = lr2 := rfl
      have small : lv.length ≤ 81 := by
        rw [lr2]
        exact Nat.le_trans (Nat.mul_le_mul n3 (Nat.min_le_right _ _)) (by omega)
      refine ⟨_, rfl, U, _, 1, .int sg.2.1, rfl, rfl, SqT.of (s2 _ _ (ne_of_none (s1 _ _ hU) fL) (s1 _ _ hU)), atI_nat (j := 1) rfl, sg.2.1, rfl, by omega, by omega, for_range (fun t σ' H' => ∃ (y5 : Option V) (lv : List V), σ' = [some (.ref a), some (.ref P1), some (.ref U), some (.ref L), some (.ref B), y5] ∧ (∀ b o, b ≠ L → H1 b = some o → H' b = some o) ∧ H' L = some (.lst lv) ∧ Paired (PthN L H') pv (pathsOf (ss.take i)) ∧ Paired (PthN L H') lv (ext ((pathsOf (ss.take i)).take j) n ++ ext1 p t) ∧ lv.length ≤ 81 + t) ⟨_, lv, rfl, s2, e2, q2, by show Paired _ _ (_ ++ []); rw [List.append_nil]; exact r2, by omega⟩ ?_ ?_⟩
      · rintro t σ3 H3 ht ⟨y5, lv, rfl, s3, e3, q3, r3, l3⟩
        obtain ⟨p', hp', B', eB', _, hB3⟩ := pgetS q3 hx2
        cases eB'
        rw [hp] at hp'
        cases hp'
        refine ⟨_, rfl, .inl ⟨rfl, _, SqL.of e3⟩, _, rfl, _, rfl, by show 1 ≤ sizeLine; decide, fun C fC => ?_⟩
        have sC := same_upd (o := .lst [V.int (0 + (t : Int))]) fC
        refine ⟨B, C, _, _, rfl, rfl, sC _ _ hB3, upd_same, ?_, fun G fG => ?_⟩
        · show (pthL p).length + 1 ≤ _
          unfold pthL
          rw [List.length_map, pj]
          exact small_le (by omega)
        have sG := same_upd (o := .lst (pthL p ++ [V.int (0 + (t : Int))])) fG
        have e4 := sG _ _ (sC _ _ e3)
        have nG : G ≠ L := (ne_of_none (sC _ _ e3) fG).symm
        refine ⟨L, lv, _, rfl, rfl, e4, Nat.lt_of_le_of_lt (show lv.length ≤ 999 by omega) (small1000 (by omega)), ?_⟩
        have bt : ∀ b o, b ≠ L → H3 b = some o → upd (upd (upd H3 C (.lst [V.int (0 + (t : Int))])) G (.lst (pthL p ++ [V.int (0 + (t : Int))]))) L (.lst (lv ++ [V.ref G])) b = some o := fun b o nb e => by
          rw [upd_ne nb]
          exact sG _ _ (sC _ _ e)
        refine ⟨_, lv ++ [.ref G], rfl, fun b o nb e => bt _ _ nb (s3 _ _ nb e), upd_same, L2.Paired.mapP q3 fun _ _ y => y.but bt, ?_, by rw [List.length_append]; show _ + 1 ≤ _; omega⟩
        rw [ext1_succ, ← List.append_assoc]
        refine paired_snocS (L2.Paired.mapP r3 fun _ _ y => y.but bt) ⟨G, rfl, nG, ?_⟩
        rw [upd_ne nG, upd_same]
        unfold pthL
        rw [List.map_append, Int.zero_add]
        rfl
      · rintro σ3 H3 ⟨y5, lv, rfl, s3, e3, q3, r3, _⟩
        have en' : sg.2.1.toNat = n := by rw [en]; rfl
        rw [en'] at r3
        refine ⟨_, _, lv, rfl, s3, e3, q3, ?_⟩
        rw [List.take_add_one, hp]
        show Paired _ _ (ext (_ ++ [p]) n)
        rw [ext_snoc]
        exact r3
    · rintro σ2 H2 ⟨y4, y5, lv, rfl, s2, e2, q2, r2⟩
      rw [lp, List.take_length] at r2
      refine ⟨_, rfl, L, _, _, _, _, lv, rfl, fun b o e => s2 _ _ (ne_of_none e hLn) (s1 _ _ e), hLn, e2, ?_⟩
      have en' : sg.2.1.toNat = n := by rw [en]; rfl
      have e3 : pathsOf (ss.take (i + 1)) = ext (pathsOf (ss.take i)) n := by
        rw [List.take_add_one, hsg, ← en']
        exact pathsOf_snoc _ _
      rw [e3]
      exact L2.Paired.mapP r2 fun _ _ y => y.toV
  · rintro σ1 H1 ⟨P1, y2, y3, y4, y5, pv, rfl, s1, nP1, e1, p1⟩
    rw [la, List.take_length] at p1
    exact ⟨_, rfl, q P1 pv H1 s1 nP1 e1 p1⟩
/-! ### _law_view -/
def sp_law_view (T : Txt K mg) : Sp := fun vs H Q _ => ∃ (a pa : Addr) (ss : List Sg) (p : List Nat) (pl : Int), vs = [.ref a, .ref pa, .int pl] ∧ StgsV H a ss ∧ H pa = some (.lst (pthL p)) ∧ p.length ≤ ss.length ∧ ss.length ≤ 4 ∧
  ∀ (v : Addr) (H' : Hp), Same H H' → Im H' (.ref v) (.tuple (viewN ss p pl p.length)) → Q (.ref v) H'
theorem path_at {p : List Nat} {i : Nat} {e : Int} (h : i < p.length) (he : e = (i : Int)) : atI (pthL p) e = some (.int ((p.getD i 0 : Nat) : Int)) := by
  have g : p[i]? = some p[i] := List.getElem?_eq_getElem h
  refine at_ofG he ?_
  unfold pthL
  rw [List.getElem?_map, g, List.getD_eq_getElem?_getD, g]
  rfl

theorem ok_law_view (T : Txt K mg) : FnOk P w K mg base CX0 1 T.a_law_view T.d_law_view ["stages", "path", "player"] (sp_law_view T) := by
  refine T.F_law_view.ok sc_law_view (fun vs H Q E h => ?_) (fun cdv A outer s H vs Q E hr h => ?_)
  · obtain ⟨a, pa, ss, p, pl, rfl, _⟩ := h
    rfl
  obtain ⟨a, pa, ss, p, pl, rfl, hss, hp, hl, h4, q⟩ := h
  have lpt : (pthL p).length = p.length := List.length_map _
  refine ⟨_, (pss_cons (ps_set (i := 3) sc_law_view.nd rfl (by first | exact Or.inl rfl | exact Or.inr rfl) (pe_tup (pa_cons (pe_tup (pa_cons pe_str (pa_cons pe_int pa_nil))) pa_nil)))
      (pss_cons (ps_set (i := 4) sc_law_view.nd rfl (by first | exact Or.inl rfl | exact Or.inr rfl) pe_int)
      (pss_cons (ps_set (i := 5) sc_law_view.nd rfl (by first | exact Or.inl rfl | exact Or.inr rfl) pe_int)
      (pss_cons (ps_for PassesOwn.never rfl (pi_range1 (by rfl) T.z_range (pa_cons (pe_callB call_len_seq (by rfl) T.z_len (by first | exact PySem.boot_len | decide +kernel) (pa_cons (pv 1) pa_nil)) pa_nil)) (pg_name (i := 6) sc_law_view.nd rfl (by first | exact Or.inl rfl | exact Or.inr rfl)) (pss_cons (ps_set (i := 7) sc_law_view.nd rfl (by first | exact Or.inl rfl | exact Or.inr rfl) (pe_ix ix_list (pv 0) (pv 6) (fun _ _ => rfl)))
      (C8.pss_cut (ps_if (PW.pt (pw_and (pt_cmpR op_gt (pv 6) pe_int (nomark _)) (pw_and1 (pt_truth (pe_ix ix_tup (pv 7) pe_int (fun _ _ => rfl)) (fun _ => rfl))))) (pss_cons (ps_set (i := 5) sc_law_view.nd rfl (by first | exact Or.inl rfl | exact Or.inr rfl) (pe_op op_add (pv 5) pe_int))
      (pss_one (ps_set (i := 3) sc_law_view.nd rfl (by first | exact Or.inl rfl | exact Or.inr rfl) (pe_op op_catA (pv 3) (pe_tup (pa_cons (pe_tup (pa_cons pe_str (pa_cons (pv 5) pa_nil))) pa_nil)))))) pss_nil)
      (C8.pss_cut (ps_if (pt_cmpR op_eq (pe_ix ix_tup (pv 7) pe_int (fun _ _ => rfl)) (pv 2) (nomark _)) (pss_one (ps_set (i := 3) sc_law_view.nd rfl (by first | exact Or.inl rfl | exact Or.inr rfl) (pe_op op_catA (pv 3) (pe_tup (pa_cons (pe_tup (pa_cons pe_str (pa_cons (pv 4) (pa_cons (pe_ix ix_tup (pv 7) pe_int (fun _ _ => rfl)) pa_nil)))) (pa_cons (pe_tup (pa_cons pe_str (pa_cons (pe_ix ix_list (pv 1) (pv 6) (fun _ _ => rfl)) pa_nil))) pa_nil)))))) pss_nil)
      (C8.pss_cut (ps_if (pt_cmpR op_ne (pe_ix ix_tup (pv 7) pe_int (fun _ _ => rfl)) pe_int (nomark _)) (pss_one (ps_set (i := 4) sc_law_view.nd rfl (by first | exact Or.inl rfl | exact Or.inr rfl) (pe_op op_add (pv 4) pe_int))) pss_nil)
      (pss_one (ps_if (PW.pt (pw_or (pt_cmpR op_eq (pe_ix ix_tup (pv 7) pe_int (fun _ _ => rfl)) (pv 2) (nomark _)) (pw_or1 (pt_cmpR op_eq (pe_ix ix_tup (pv 7) pe_int (fun _ _ => rfl)) pe_int (nomark _))))) (pss_one (ps_set (i := 3) sc_law_view.nd rfl (by first | exact Or.inl rfl | exact Or.inr rfl) (pe_op op_catA (pv 3) (pe_tup (pa_cons (pe_tup (pa_cons pe_str (pa_cons (pe_ix ix_list (pv 1) (pv 6) (fun _ _ => rfl)) pa_nil))) pa_nil))))) pss_nil)))))))
      (pss_one (ps_ret (pv 3))))))), ?_⟩
  refine ⟨by show 2 ≤ sizeLine; decide, fun t ht => ⟨by show 1 ≤ sizeLine; decide, fun u hu => ?_⟩⟩
  have s0 := upd2_same (o := .tup [.str "round", .int 0]) (o' := .tup [.ref t]) ht hu
  have i0 : Im (upd (upd H t (.tup [.str "round", .int 0])) u (.tup [.ref t])) (.ref u) (.tuple (viewN ss p pl 0)) := .tup upd_same (.cons (.tup (same_upd hu _ _ upd_same) (.cons (.str _) (.cons (.int _) .nil))) .nil)
  refine ⟨_, rfl, pa, _, rfl, .inl (SqL.of (s0 _ _ hp)), ?_⟩
  rw [lpt]
  refine ⟨((p.length : Nat) : Int), rfl, by omega, by omega, for_range (fun i σ' H' => ∃ (v : Addr) (y6 y7 : Option V), σ' = [some (.ref a), some (.ref pa), some (.int pl), some (.ref v), some (.int ((nums ss i : Nat) : Int)), some (.int ((rn ss i : Nat) : Int)), y6, y7] ∧ Same H H' ∧ Im H' (.ref v) (.tuple (viewN ss p pl i))) ⟨u, _, _, rfl, s0, i0⟩ ?_ ?_⟩
  · rintro i σ1 H1 hi ⟨v, y6, y7, rfl, s1, i1⟩
    have hi' : i < p.length := by omega
    obtain ⟨vs, ha, pv⟩ := hss
    obtain ⟨U, sg, gv, hs, hU⟩ := ss_get pv (show i < ss.length by omega)
    have e0 : (0 : Int) + (i : Int) = ((i : Nat) : Int) := Int.zero_add _
    have hn := nth_at hs
    have vl := view_len ss p pl i
    have rl := rnd_len ss i
    refine ⟨_, rfl, _, rfl, a, vs, _, .ref U, rfl, rfl, SqL.of (s1 _ _ ha), at_of e0 gv, ?_⟩
    refine ⟨fun σ' H' => ∃ v : Addr, σ' = [some (.ref a), some (.ref pa), some (.int pl), some (.ref v), some (.int ((nums ss i : Nat) : Int)), some (.int ((rn ss (i + 1) : Nat) : Int)), some (.int (0 + (i : Int))), some (.ref U)] ∧ Same H H' ∧ Im H' (.ref v) (.tuple (viewN ss p pl i ++ rndOf ss i)), ?_, ?_⟩
    · have no : ¬ (0 < i ∧ sg.2.2.2 = true) → rn ss (i + 1) = rn ss i ∧ rndOf ss i = [] := fun z => by
        refine ⟨?_, by unfold rndOf; rw [hn, if_neg z]⟩
        by_cases i0 : 0 < i
        · rw [rn_succ hs i0, if_neg fun y => z ⟨i0, y⟩]
          rfl
        · have : i = 0 := by omega
          subst this
          rw [rn_one]
          rfl
      have same : ¬ (0 < i ∧ sg.2.2.2 = true) → ∃ v' : Addr, [some (V.ref a), some (.ref pa), some (.int pl), some (.ref v), some (.int ((nums ss i : Nat) : Int)), some (.int ((rn ss i : Nat) : Int)), some (.int (0 + (i : Int))), some (.ref U)] = [some (.ref a), some (.ref pa), some (.int pl), some (.ref v'), some (.int ((nums ss i : Nat) : Int)), some (.int ((rn ss (i + 1) : Nat) : Int)), some (.int (0 + (i : Int))), some (.ref U)] ∧ Same H H1 ∧ Im H1 (.ref v') (.tuple (viewN ss p pl i ++ rndOf ss i)) := fun z => by
        obtain ⟨z1, z2⟩ := no z
        exact ⟨v, by rw [z1], s1, by rw [z2, List.append_nil]; exact i1⟩
      refine ⟨_, rfl, _, _, rfl, rfl, _, rfl, ite2 (fun c => ?_) (fun c => same fun z => c (decide_eq_true (by omega)))⟩
      have c' : 0 < i := by
        have : (0 : Int) < 0 + (i : Int) := of_decide_eq_true c
        omega
      refine ⟨_, rfl, U, _, 3, .bl sg.2.2.2, rfl, rfl, SqT.of (s1 _ _ hU), atI_nat (j := 3) rfl, _, rfl, ite2 (fun b => ?_) (fun b => same fun z => b z.2)⟩
      have rs := rn_succ hs c'
      rw [if_pos b] at rs
      refine ⟨_, rfl, _, _, rfl, rfl, _, rfl, _, rfl, by show 2 ≤ sizeLine; decide, fun t ht => ⟨by show 1 ≤ sizeLine; decide, fun u hu => ?_⟩⟩
      cases i1 with
      | @tup _ xs _ hv hA =>
      have s2 := upd2_same (o := .tup [.str "round", .int (((rn ss i : Nat) : Int) + 1)]) (o' := .tup [.ref t]) ht hu
      have er : (((rn ss i : Nat) : Int) + 1) = ((rn ss (i + 1) : Nat) : Int) := by rw [rs]; rfl
      refine cat_evs (es := rndOf ss i) (s2 _ _ hv) (hA.keep (keepT_of s2)) upd_same ?_ (by rw [hA.len]; show _ + 1 ≤ _; omega) fun w H3 s3 i3 => ⟨w, by rw [← er]; rfl, s1.trans (s2.trans s3), i3⟩
      have e5 : rndOf ss i = [evRound (rn ss (i + 1))] := by unfold rndOf; rw [hn, if_pos ⟨c', b⟩]
      rw [e5]
      refine .cons (.tup (same_upd hu _ _ upd_same) (.cons (.str _) (.cons ?_ .nil))) .nil
      show Im _ (.int (((rn ss i : Nat) : Int) + 1)) _
      rw [er]
      exact .int _
    clear s1 i1
    rintro σ2 H2 ⟨v, rfl, s1, i1⟩
    refine ⟨fun σ' H' => ∃ v : Addr, σ' = [some (.ref a), some (.ref pa), some (.int pl), some (.ref v), some (.int ((nums ss i : Nat) : Int)), some (.int ((rn ss (i + 1) : Nat) : Int)), some (.int (0 + (i : Int))), some (.ref U)] ∧ Same H H' ∧ Im H' (.ref v) (.tuple ((viewN ss p pl i ++ rndOf ss i) ++ (if sg.1 = pl then [evMove (nums ss i) sg.2.1, evDid ((p.getD i 0 : Nat) : Int)] else []))), ?_, ?_⟩
    · refine ⟨_, rfl, U, _, 0, .int sg.1, rfl, rfl, SqT.of (s1 _ _ hU), atI_nat (j := 0) rfl, _, rfl, rfl, _, rfl, ite2 (fun c => ?_) (fun c => ?_)⟩
      · have c' : sg.1 = pl := V.int.inj (of_decide_eq_true c)
        refine ⟨_, rfl, _, rfl, _, rfl, U, _, 1, .int sg.2.1, rfl, rfl, SqT.of (s1 _ _ hU), atI_nat (j := 1) rfl, by show 3 ≤ sizeLine; decide, fun t ht => ?_⟩
        have st := same_upd (o := .tup [V.str "move", .int ((nums ss i : Nat) : Int), .int sg.2.1]) ht
        refine ⟨_, rfl, _, rfl, pa, _, _, .int ((p.getD i 0 : Nat) : Int), rfl, rfl, SqL.of (st _ _ (s1 _ _ hp)), path_at hi' e0, by show 2 ≤ sizeLine; decide, fun t2 ht2 => ⟨by show 2 ≤ sizeLine; decide, fun u hu => ?_⟩⟩
        have st2 := same_upd (o := .tup [V.str "did", .int ((p.getD i 0 : Nat) : Int)]) ht2
        have su := same_upd (o := .tup [V.ref t, .ref t2]) hu
        have s2 := (st.trans st2).trans su
        cases i1 with
        | @tup _ xs _ hv hA =>
        rw [if_pos c']
        refine cat_evs (s2 _ _ hv) (hA.keep (keepT_of s2)) upd_same (.cons (.tup (su _ _ (st2 _ _ upd_same)) (.cons (.str _) (.cons (.int _) (.cons (.int _) .nil)))) (.cons (.tup (su _ _ upd_same) (.cons (.str _) (.cons (.int _) .nil))) .nil)) (by rw [hA.len, List.length_append]; show _ + 2 ≤ _; omega) fun w H3 s3 i3 => ⟨w, rfl, s1.trans (s2.trans s3), i3⟩
      · have c' : ¬ sg.1 = pl := fun z => c (decide_eq_true (congrArg V.int z))
        exact ⟨v, rfl, s1, by rw [if_neg c', List.append_nil]; exact i1⟩
    clear s1 i1
    rintro σ3 H3 ⟨v, rfl, s1, i1⟩
    refine ⟨fun σ' H' => H' = H3 ∧ σ' = [some (.ref a), some (.ref pa), some (.int pl), some (.ref v), some (.int ((nums ss (i + 1) : Nat) : Int)), some (.int ((rn ss (i + 1) : Nat) : Int)), some (.int (0 + (i : Int))), some (.ref U)], ?_, ?_⟩
    · have ns := nums_succ hs
      refine ⟨_, rfl, U, _, 0, .int sg.1, rfl, rfl, SqT.of (s1 _ _ hU), atI_nat (j := 0) rfl, rfl, _, rfl, ite2 (fun c => ?_) (fun c => ?_)⟩
      · have c' : sg.1 ≠ 0 := fun z => by rw [z] at c; simp at c
        rw [if_neg c'] at ns
        refine ⟨_, rfl, _, _, rfl, rfl, rfl, ?_⟩
        rw [ns]
        rfl
      · have c' : sg.1 = 0 := by
          by_cases z : sg.1 = 0
          · exact z
          · exact absurd (by simp [z]) c
        rw [if_pos c'] at ns
        exact ⟨rfl, by rw [ns]; rfl⟩
    rintro σ4 H4 ⟨rfl, rfl⟩
    have fin : viewN ss p pl (i + 1) = ((viewN ss p pl i ++ rndOf ss i) ++ (if sg.1 = pl then [evMove (nums ss i) sg.2.1, evDid ((p.getD i 0 : Nat) : Int)] else [])) ++ (if sg.2.2.1 = pl ∨ sg.2.2.1 = 3 then [evTold (p.getD i 0)] else []) := by
      show viewN ss p pl i ++ (rndOf ss i ++ evsOf (nth ss i) (p.getD i 0) (nums ss i) pl) = _
      rw [hn]
      unfold evsOf
      simp only [List.append_assoc]
    have el : (if sg.1 = pl then [evMove (nums ss i) sg.2.1, evDid ((p.getD i 0 : Nat) : Int)] else []).length ≤ 2 := by split <;> simp
    have yes : sg.2.2.1 = pl ∨ sg.2.2.1 = 3 → ∀ (t u : Addr), H4 t = none → upd H4 t (.tup [V.str "told", .int ((p.getD i 0 : Nat) : Int)]) u = none → ∀ (Q' : VK), (∀ (w : Addr) (H5 : Hp), Same H H5 → Im H5 (.ref w) (.tuple (viewN ss p pl (i + 1))) → Q' (.ref w) H5) → rCatA K (.ref v) (.ref u) (upd (upd H4 t (.tup [V.str "told", .int ((p.getD i 0 : Nat) : Int)])) u (.tup [V.ref t])) Q' := fun hy t u ht hu Q' k => by
      have s2 := upd2_same (o := .tup [V.str "told", .int ((p.getD i 0 : Nat) : Int)]) (o' := .tup [V.ref t]) ht hu
      rw [if_pos hy] at fin
      cases i1 with
      | @tup _ xs _ hv hA =>
      refine cat_evs (es := [evTold (p.getD i 0)]) (s2 _ _ hv) (hA.keep (keepT_of s2)) upd_same (.cons (.tup (same_upd hu _ _ upd_same) (.cons (.str _) (.cons (.int _) .nil))) .nil) (by rw [hA.len, List.length_append, List.length_append]; show _ + 1 ≤ _; omega) fun w H3 s3 i3 => k w H3 (s1.trans (s2.trans s3)) (by rw [fin]; exact i3)
    have at2 : atI [V.int sg.1, .int sg.2.1, .int sg.2.2.1, .bl sg.2.2.2] 2 = some (.int sg.2.2.1) := atI_nat (j := 2) rfl
    refine ⟨_, rfl, U, _, 2, .int sg.2.2.1, rfl, rfl, SqT.of (s1 _ _ hU), at2, _, rfl, rfl, _, rfl, ite2 (fun c => ?_) (fun c => ?_)⟩
    · have c' : sg.2.2.1 = pl := V.int.inj (of_decide_eq_true c)
      exact ⟨_, rfl, _, rfl, _, rfl, pa, _, _, .int ((p.getD i 0 : Nat) : Int), rfl, rfl, SqL.of (s1 _ _ hp), path_at hi' e0, by show 2 ≤ sizeLine; decide, fun t ht => ⟨by show 1 ≤ sizeLine; decide, fun u hu => yes (.inl c') t u ht hu _ fun w H5 s5 i5 => ⟨w, _, _, rfl, s5, i5⟩⟩⟩
    · have c' : ¬ sg.2.2.1 = pl := fun z => c (decide_eq_true (congrArg V.int z))
      refine ⟨_, rfl, U, _, 2, .int sg.2.2.1, rfl, rfl, SqT.of (s1 _ _ hU), at2, rfl, _, rfl, ite2 (fun d => ?_) (fun d => ?_)⟩
      · have d' : sg.2.2.1 = 3 := V.int.inj (of_decide_eq_true d)
        exact ⟨_, rfl, _, rfl, _, rfl, pa, _, _, .int ((p.getD i 0 : Nat) : Int), rfl, rfl, SqL.of (s1 _ _ hp), path_at hi' e0, by show 2 ≤ sizeLine; decide, fun t ht => ⟨by show 1 ≤ sizeLine; decide, fun u hu => yes (.inr d') t u ht hu _ fun w H5 s5 i5 => ⟨w, _, _, rfl, s5, i5⟩⟩⟩
      · have d' : ¬ sg.2.2.1 = 3 := fun z => d (decide_eq_true (congrArg V.int z))
        rw [if_neg (show ¬ (sg.2.2.1 = pl ∨ sg.2.2.1 = 3) from fun z => z.elim c' d'), List.append_nil] at fin
        exact ⟨v, _, _, rfl, s1, by rw [fin]; exact i1⟩
  · rintro σ1 H1 ⟨v, y6, y7, rfl, s1, i1⟩
    exact ⟨_, rfl, q v H1 s1 i1⟩
/-! ### _law_asked -/
def sp_law_asked (T : Txt K mg) : Sp := fun vs H Q _ => ∃ (a pa : Addr) (ss : List Sg) (p : List Nat), vs = [.ref a, .ref pa] ∧ StgsV H a ss ∧ H pa = some (.lst (pthL p)) ∧ p.length < ss.length ∧ ss.length ≤ 4 ∧
  ∀ (v : Addr) (H' : Hp), Same H H' → Im H' (.ref v) (.tuple (asked ss p)) → Q (.ref v) H'
theorem ext_sum {fs : List Int} {b : Bool} : (fs ++ [if b = true then (1 : Int) else 0]).sum = fs.sum + (if b = true then 1 else 0) := by
  rw [List.sum_append]
  simp

theorem ok_law_asked (T : Txt K mg) : FnOk P w K mg base CX0 2 T.a_law_asked T.d_law_asked ["stages", "path"] (sp_law_asked T) := by
  refine T.F_law_asked.ok sc_law_asked (fun vs H Q E h => ?_) (fun cdv A outer s H vs Q E hr h => ?_)
  · obtain ⟨a, pa, ss, p, rfl, _⟩ := h
    rfl
  obtain ⟨a, pa, ss, p, rfl, hss, hp, hl, h4, q⟩ := h
  have lpt : (pthL p).length = p.length := List.length_map _
  obtain ⟨vs, ha, pvs⟩ := id hss
  refine ⟨_, (pss_cons (ps_set (i := 2) sc_law_asked.nd rfl (by first | exact Or.inl rfl | exact Or.inr rfl) pe_int)
      (pss_cons (ps_for PassesOwn.never rfl (pi_range1 (by rfl) T.z_range (pa_cons (pe_callB call_len_seq (by rfl) T.z_len (by first | exact PySem.boot_len | decide +kernel) (pa_cons (pv 1) pa_nil)) pa_nil)) (pg_name (i := 3) sc_law_asked.nd rfl (by first | exact Or.inl rfl | exact Or.inr rfl)) (pss_one (ps_set (i := 2) sc_law_asked.nd rfl (by first | exact Or.inl rfl | exact Or.inr rfl) (pe_op op_add (pv 2) (pe_callTy call_int1 (by rfl) T.z_int (by first | exact PySem.boot_int | decide +kernel) (pa_cons (pe_cmpR op_ne (pe_ix ix_tup (pe_ix ix_list (pv 0) (pv 3) (fun _ _ => rfl)) pe_int (fun _ _ => rfl)) pe_int (nomark _)) pa_nil))))))
      (pss_cons (ps_set (i := 4) sc_law_asked.nd rfl (by first | exact Or.inl rfl | exact Or.inr rfl) (pe_ix ix_list (pv 0) (pe_callB call_len_seq (by rfl) T.z_len (by first | exact PySem.boot_len | decide +kernel) (pa_cons (pv 1) pa_nil)) (fun _ _ => rfl)))
      (pss_cons (ps_set (i := 5) sc_law_asked.nd rfl (by first | exact Or.inl rfl | exact Or.inr rfl) (pe_call (ok_law_view T) (hr.mono (by decide)) (by rfl) T.m_law_view T.F_law_view.kp T.b_law_view .nil pass0 (pa_cons (pv 0) (pa_cons (pv 1) (pa_cons (pe_ix ix_tup (pv 4) pe_int (fun _ _ => rfl)) pa_nil)))))
      (C8.pss_cut (ps_if (PW.pt (pw_and (pt_cmpR op_gt (pe_callB call_len_seq (by rfl) T.z_len (by first | exact PySem.boot_len | decide +kernel) (pa_cons (pv 1) pa_nil)) pe_int (nomark _)) (pw_and1 (pt_truth (pe_ix ix_tup (pv 4) pe_int (fun _ _ => rfl)) (fun _ => rfl))))) (pss_one (ps_set (i := 5) sc_law_asked.nd rfl (by first | exact Or.inl rfl | exact Or.inr rfl) (pe_op op_catA (pv 5) (pe_tup (pa_cons (pe_tup (pa_cons pe_str (pa_cons (pe_callB (cr_sum rfl) (by rfl) T.z_sum (by first | exact PySem.boot_sum | decide +kernel) (pa_cons (pe_lc (own := [("k", 3)]) (g := gName 3) (tt := tYes) rfl sc_law_asked.nd (pi_range2 (by rfl) T.z_range (pa_cons pe_int (pa_cons (pe_op op_add (pe_callB call_len_seq (by rfl) T.z_len (by first | exact PySem.boot_len | decide +kernel) (pa_cons (pv 1) pa_nil)) pe_int) pa_nil))) (blkOk_by (N := N_law_asked) (sc := defScope s_law_asked) (by decide +kernel)) (fun _ _ _ _ _ => (pg_name (i := 3) sc_law_asked.nd rfl (by first | exact Or.inl rfl | exact Or.inr rfl))) (fun _ _ _ _ _ => pts_nil) (fun _ _ _ _ _ => (pe_callTy call_int1 (by rfl) T.z_int (by first | exact PySem.boot_int | decide +kernel) (pa_cons (pe_ix (show IxR _ (rIxT K) from ix_tup) (pe_ix (show IxR _ (rIxL K) from ix_list) (pv 0) (pv 3) (fun _ _ => rfl)) pe_int (fun _ _ => rfl)) pa_nil)))) pa_nil)) pa_nil))) pa_nil))))) pss_nil)
      (pss_one (ps_ret (pe_op op_catA (pv 5) (pe_tup (pa_cons (pe_tup (pa_cons pe_str (pa_cons (pv 2) (pa_cons (pe_ix ix_tup (pv 4) pe_int (fun _ _ => rfl)) pa_nil)))) pa_nil)))))))))), ?_⟩
  refine ⟨_, rfl, pa, _, rfl, .inl (SqL.of hp), ?_⟩
  rw [lpt]
  refine ⟨((p.length : Nat) : Int), rfl, by omega, by omega, for_range (fun i σ' H' => ∃ (y3 : Option V), H' = H ∧ σ' = [some (.ref a), some (.ref pa), some (.int ((nums ss i : Nat) : Int)), y3, none, none]) ⟨_, rfl, rfl⟩ ?_ ?_⟩
  · rintro i σ1 H1 hi ⟨y3, rfl, rfl⟩
    obtain ⟨U, sg, gv, hs, hU⟩ := ss_get pvs (show i < ss.length by omega)
    have e0 : (0 : Int) + (i : Int) = ((i : Nat) : Int) := Int.zero_add _
    have ns := nums_succ hs
    refine ⟨_, rfl, _, rfl, _, rfl, a, vs, _, .ref U, rfl, rfl, SqL.of ha, at_of e0 gv, U, _, 0, .int sg.1, rfl, rfl, SqT.of hU, atI_nat (j := 0) rfl, rfl, .inr ⟨_, rfl, _, _, rfl, rfl, some (.int (0 + (i : Int))), rfl, ?_⟩⟩
    have ev : ((nums ss i : Nat) : Int) + (if (!decide (V.int sg.1 = V.int 0)) = true then 1 else 0) = ((nums ss (i + 1) : Nat) : Int) := by
      rw [ns]
      by_cases z : sg.1 = 0
      · rw [if_pos z, z]
        rfl
      · have : decide (V.int sg.1 = V.int 0) = false := decide_eq_false fun y => z (V.int.inj y)
        rw [if_neg z, this]
        rfl
    show [some (V.ref a), some (.ref pa), some (.int (((nums ss i : Nat) : Int) + (if (!decide (V.int sg.1 = V.int 0)) = true then 1 else 0))), some (.int (0 + (i : Int))), none, none] = _
    rw [ev]
  · rintro σ1 H1 ⟨y3, rfl, rfl⟩
    obtain ⟨U, sg, gv, hs, hU⟩ := ss_get pvs hl
    have hn := nth_at hs
    have n0 : ((p.length : Nat) : Int).toNat = p.length := Int.toNat_natCast _
    rw [n0]
    refine ⟨_, rfl, _, rfl, pa, _, rfl, .inl (SqL.of hp), a, vs, _, .ref U, rfl, rfl, SqL.of ha, at_ofG (j := p.length) (by rw [lpt]) gv, ?_⟩
    refine ⟨_, rfl, _, rfl, _, rfl, U, _, 0, .int sg.1, rfl, rfl, SqT.of hU, atI_nat (j := 0) rfl, a, pa, ss, p, sg.1, rfl, ⟨vs, ha, pvs⟩, hp, by omega, h4, fun v H2 s2 i2 => ?_⟩
    have ea : asked ss p = (viewN ss p sg.1 p.length ++ rndOf ss p.length) ++ [evMove (nums ss p.length) sg.2.1] := by
      unfold asked
      rw [hn]
    have vl := view_len ss p sg.1 p.length
    have rl := rnd_len ss p.length
    refine ⟨fun σ' H' => ∃ v : Addr, σ' = [some (.ref a), some (.ref pa), some (.int ((nums ss p.length : Nat) : Int)), y3, some (.ref U), some (.ref v)] ∧ Same H1 H' ∧ Im H' (.ref v) (.tuple (viewN ss p sg.1 p.length ++ rndOf ss p.length)), ?_, ?_⟩
    · have same : ¬ (0 < p.length ∧ sg.2.2.2 = true) → ∃ v' : Addr, [some (V.ref a), some (.ref pa), some (.int ((nums ss p.length : Nat) : Int)), y3, some (.ref U), some (.ref v)] = [some (V.ref a), some (.ref pa), some (.int ((nums ss p.length : Nat) : Int)), y3, some (.ref U), some (.ref v')] ∧ Same H1 H2 ∧ Im H2 (.ref v') (.tuple (viewN ss p sg.1 p.length ++ rndOf ss p.length)) := fun z => by
        refine ⟨v, rfl, s2, ?_⟩
        have e5 : rndOf ss p.length = [] := by unfold rndOf; rw [hn, if_neg z]
        rw [e5, List.append_nil]
        exact i2
      refine ⟨_, rfl, pa, _, rfl, .inl (SqL.of (s2 _ _ hp)), _, _, rfl, rfl, _, rfl, ite2 (fun c => ?_) (fun c => same fun z => c (decide_eq_true (by rw [lpt]; omega)))⟩
      have c' : 0 < p.length := by
        have : (0 : Int) < (((pthL p).length : Nat) : Int) := of_decide_eq_true c
        omega
      refine ⟨_, rfl, U, _, 3, .bl sg.2.2.2, rfl, rfl, SqT.of (s2 _ _ hU), atI_nat (j := 3) rfl, _, rfl, ite2 (fun b => ?_) (fun b => same fun z => b z.2)⟩
      have e5 : rndOf ss p.length = [evRound (rn ss (p.length + 1))] := by unfold rndOf; rw [hn, if_pos ⟨c', b⟩]
      refine ⟨_, rfl, _, rfl, pa, _, rfl, .inl (SqL.of (s2 _ _ hp)), _, _, rfl, rfl, 1, _, rfl, ⟨by decide, by decide, by rw [lpt]; omega, by rw [lpt]; omega⟩, fun D hD => ?_⟩
      refine lc_range (fun i H' => ∃ fs : List Int, fs.length = i ∧ H' D = some (.lst (fs.map V.int)) ∧ Same H2 H' ∧ fs.sum = ((rn ss (i + 1) : Nat) : Int)) ⟨[], rfl, upd_same, same_upd hD, by rw [rn_one]; rfl⟩ (fun i H6 hi h => ?_) (fun H6 h => ?_)
      · obtain ⟨fs, el, e6, s6, hsum⟩ := h
        have hi' : i < p.length := by rw [lpt] at hi; omega
        obtain ⟨W, sw, gw, hw, hW⟩ := ss_get pvs (show i + 1 < ss.length by omega)
        refine ⟨rfl, ?_⟩
        refine ⟨_, rfl, _, rfl, a, vs, _, .ref W, rfl, rfl, SqL.of (s6 _ _ (s2 _ _ ha)), at_ofG (j := i + 1) (by omega) gw, W, _, 3, .bl sw.2.2.2, rfl, rfl, SqT.of (s6 _ _ (s2 _ _ hW)), atI_nat (j := 3) rfl, .inr ⟨_, rfl, ?_⟩⟩
        refine ⟨_, e6, Nat.lt_of_le_of_lt (show (fs.map V.int).length ≤ 999 by rw [List.length_map]; omega) (small1000 (by omega)), fs ++ [if sw.2.2.2 = true then 1 else 0], by rw [List.length_append, el]; rfl, ?_, fun b o e => ?_, ?_⟩
        · rw [upd_same, List.map_append]
          rfl
        · rw [upd_ne (ne_of_none e hD)]
          exact s6 _ _ e
        · rw [ext_sum, hsum, rn_succ hw (by omega)]
          split <;> rfl
      obtain ⟨fs, el, e6, s6, hsum⟩ := h
      refine ⟨D, fs, rfl, SqL.of e6, by show 2 ≤ sizeLine; decide, fun t ht => ⟨by show 1 ≤ sizeLine; decide, fun u hu => ?_⟩⟩
      cases i2 with
      | @tup _ xs _ hv hA =>
      have s7 := upd2_same (o := .tup [.str "round", .int fs.sum]) (o' := .tup [.ref t]) ht hu
      refine cat_evs (es := rndOf ss p.length) (s7 _ _ (s6 _ _ hv)) (hA.keep (keepT_of (s6.trans s7))) upd_same ?_ (by rw [hA.len]; show _ + 1 ≤ _; omega) fun w H3 s3 i3 => ⟨w, rfl, s2.trans (s6.trans (s7.trans s3)), i3⟩
      rw [e5]
      refine .cons (.tup (same_upd hu _ _ upd_same) (.cons (.str _) (.cons ?_ .nil))) .nil
      have el3 : fs.length = p.length := el.trans (by rw [lpt]; omega)
      show Im _ (.int fs.sum) (.int ((rn ss (p.length + 1) : Nat) : Int))
      rw [hsum, ← el, el3]
      exact .int _
    rintro σ3 H3 ⟨v, rfl, s3, i3⟩
    refine ⟨_, rfl, _, rfl, _, rfl, U, _, 1, .int sg.2.1, rfl, rfl, SqT.of (s3 _ _ hU), atI_nat (j := 1) rfl, by show 3 ≤ sizeLine; decide, fun t ht => ⟨by show 1 ≤ sizeLine; decide, fun u hu => ?_⟩⟩
    cases i3 with
    | @tup _ xs _ hv hA =>
    have s4 := upd2_same (o := .tup [.str "move", .int ((nums ss p.length : Nat) : Int), .int sg.2.1]) (o' := .tup [.ref t]) ht hu
    refine cat_evs (es := [evMove (nums ss p.length) sg.2.1]) (s4 _ _ hv) (hA.keep (keepT_of s4)) upd_same (.cons (.tup (same_upd hu _ _ upd_same) (.cons (.str _) (.cons (.int _) (.cons (.int _) .nil)))) .nil) (by rw [hA.len, List.length_append]; show _ + 1 ≤ _; omega) fun w H5 s5 i5 => ?_
    exact q w H5 (s3.trans (s4.trans s5)) (by rw [ea]; exact i5)
/-! ### _law_changed -/
/-- a place or none -/
def PlV (H : Hp) (v : V) : Option (List Nat) → Prop
  | none => v = .non
  | some p => ∃ b, v = .ref b ∧ H b = some (.lst (pthL p))
theorem PlV.same {H H' : Hp} (s : Same H H') {v : V} : ∀ {o : Option (List Nat)}, PlV H v o → PlV H' v o
  | none, h => h
  | some _, ⟨b, e, t⟩ => ⟨b, e, s _ _ t⟩
def snP (ss : List Sg) (o : Option (List Nat)) (ds : List PyData) (p : List Nat) : List PyData := if some p = o then ds else asked ss p
def plaD : Option (List Nat) → PyData
  | none => .none
  | some p => .list (p.map fun (k : Nat) => PyData.int (k : Int))
theorem plaD_eqv : ∀ {p q : List Nat}, PyData.eqvAll (p.map fun (k : Nat) => PyData.int (k : Int)) (q.map fun (k : Nat) => PyData.int (k : Int)) = true ↔ p = q
  | [], [] => ⟨fun _ => rfl, fun _ => eqvAll_nn⟩
  | [], _ :: _ => ⟨fun h => by simp [PyData.eqvAll] at h, fun h => by cases h⟩
  | _ :: _, [] => ⟨fun h => by simp [PyData.eqvAll] at h, fun h => by cases h⟩
  | x :: r, y :: t => by
    simp only [List.map_cons, PyData.eqvAll, PyData.eqv, Bool.and_eq_true, beq_iff_eq]
    rw [plaD_eqv]
    constructor
    · rintro ⟨h1, h2⟩
      rw [h2, Int.ofNat.inj h1]
    · intro h
      cases h
      exact ⟨rfl, rfl⟩
theorem pla_eq (p : List Nat) (o : Option (List Nat)) : PyData.eqv (plaD (some p)) (plaD o) = decide (some p = o) := by
  cases o with
  | none => simp [plaD, PyData.eqv]
  | some q =>
    have e : PyData.eqv (plaD (some p)) (plaD (some q)) = true ↔ some p = some q := by
      simp only [plaD, PyData.eqv, plaD_eqv, Option.some.injEq]
    by_cases z : some p = some q
    · rw [decide_eq_true z]
      exact e.mpr z
    · rw [decide_eq_false z]
      exact Bool.eq_false_iff.mpr fun h => z (e.mp h)
theorem pla_dp {K : PySem.W.Frag} {H : Hp} : ∀ p : List Nat, DpAll K H (pthL p) (p.map fun (k : Nat) => PyData.int (k : Int))
  | [] => .nil
  | _ :: r => .cons (.int _) (pla_dp r)
theorem pla_V {K : PySem.W.Frag} {H : Hp} {v : V} : ∀ {o : Option (List Nat)}, PlV H v o → Dp K H v (plaD o)
  | none, h => by
    have e : v = .non := h
    rw [e]
    exact .non
  | some p, ⟨b, e, t⟩ => by
    rw [e]
    exact .lst (SqL.of t) (pla_dp p)
theorem pla_sh {o : Option (List Nat)} (h : ∀ p, o = some p → p.length ≤ 900) : SeqAt.shaped (plaD o) = true := by
  cases o with
  | none => exact (lay_none).shaped (by omega)
  | some p => exact (lay_list (n := 0) (by rw [List.length_map]; have := h p rfl; omega) fun d m => by
      obtain ⟨k, _, rfl⟩ := List.mem_map.mp m
      exact lay_int _).shaped (by omega)
theorem mk_same {H H' : Hp} {x dx : Addr} {o1 o2 : HO} (nx : H x = none) (nd : H dx = none) (b : But x (upd (upd H dx o1) x o2) H') : Same H H' := fun c o e => by
  refine b c o (ne_of_none e nx) ?_
  rw [upd_ne (ne_of_none e nx), upd_ne (ne_of_none e nd)]
  exact e
theorem mk_sameU {H : Hp} {x dx : Addr} {o1 o2 : HO} (nx : H x = none) (nd : H dx = none) : Same H (upd (upd H dx o1) x o2) := fun c o e => by
  rw [upd_ne (ne_of_none e nx), upd_ne (ne_of_none e nd)]
  exact e
def sp_law_changed (T : Txt K mg) (n : Nat) : Sp := fun vs H Q _ => ∃ (a pa : Addr) (plv vv : V) (ss : List Sg) (p : List Nat) (o : Option (List Nat)) (ds : List PyData), vs = [.ref a, .ref pa, plv, vv] ∧ StgsV H a ss ∧ (∀ s ∈ ss, SgOk s) ∧ ss.length ≤ 4 ∧ H pa = some (.lst (pthL p)) ∧ p.length ≤ ss.length ∧ ss.length - p.length < n ∧ n ≤ 6 ∧ PlV H plv o ∧ (∀ q, o = some q → q.length ≤ 10) ∧ Im H vv (.tuple ds) ∧
  ∀ (v : V) (H' : Hp), Same H H' → TrV T.C_End T.C_Lot T.C_Turn H' v (chg ss (snP ss o ds) (ss.length - p.length) p) → Q v H'
theorem no_law_changed (T : Txt K mg) : ∀ vs H Q E, ¬ sp_law_changed T 0 vs H Q E := fun vs H Q E ⟨_, _, _, _, _, _, _, _, _, _, _, _, _, _, h, _⟩ => by omega

theorem step_law_changed (T : Txt K mg) {n : Nat} (G : FnOk P w K mg base CX0 (2 + n) T.a_law_changed T.d_law_changed ["stages", "path", "place", "view"] (sp_law_changed T n)) : FnOk P w K mg base CX0 (2 + n + 1) T.a_law_changed T.d_law_changed ["stages", "path", "place", "view"] (sp_law_changed T (n + 1)) := by
  refine T.F_law_changed.ok sc_law_changed (fun vs H Q E h => ?_) (fun cdv A outer s H vs Q E hr h => ?_)
  · obtain ⟨a, pa, plv, vv, ss, p, o, ds, rfl, _⟩ := h
    rfl
  obtain ⟨a, pa, plv, vv, ss, p, o, ds, rfl, hss, hok, h4, hp, hl, hn, h6, hpl, hpo, him, q⟩ := h
  obtain ⟨vs, ha, pvs⟩ := id hss
  have lpt : (pthL p).length = p.length := List.length_map _
  have lvs := paired_lenS pvs
  refine ⟨_, (pss_cons (ps_if (pt_cmpR op_eq (pe_callB call_len_seq (by rfl) T.z_len (by first | exact PySem.boot_len | decide +kernel) (pa_cons (pv 1) pa_nil)) (pe_callB call_len_seq (by rfl) T.z_len (by first | exact PySem.boot_len | decide +kernel) (pa_cons (pv 0) pa_nil)) (nomark _)) (pss_one (ps_ret (pe_make T.mk_End (ok_End_init T) (hr.mono (by omega)) (by rfl) T.m_End T.b_End_init .nil pass0 (pa_cons pe_int pa_nil)))) pss_nil)
      (pss_cons (ps_set (i := 4) sc_law_changed.nd rfl (by first | exact Or.inl rfl | exact Or.inr rfl) (pe_ix ix_list (pv 0) (pe_callB call_len_seq (by rfl) T.z_len (by first | exact PySem.boot_len | decide +kernel) (pa_cons (pv 1) pa_nil)) (fun _ _ => rfl)))
      (pss_cons (ps_set (i := 5) sc_law_changed.nd rfl (by first | exact Or.inl rfl | exact Or.inr rfl) (pe_lst pa_nil))
      (pss_cons (ps_for PassesOwn.never rfl (pi_range1 (by rfl) T.z_range (pa_cons (pe_ix ix_tup (pv 4) pe_int (fun _ _ => rfl)) pa_nil)) (pg_name (i := 6) sc_law_changed.nd rfl (by first | exact Or.inl rfl | exact Or.inr rfl)) (pss_one (ps_expr (pe_bm PySem.F.plainAttrs_list PySem.F.slot_list_append PySem.F.type_list_append mt_append (pv 5) (pa_cons (pe_call G hr (by rfl) T.m_law_changed T.F_law_changed.kp T.b_law_changed .nil pass0 (pa_cons (pv 0) (pa_cons (pe_op op_cat (pv 1) (pe_lst (pa_cons (pv 6) pa_nil))) (pa_cons (pv 2) (pa_cons (pv 3) pa_nil))))) pa_nil)))))
      (pss_cons (ps_if (pt_cmpR op_eq (pe_ix ix_tup (pv 4) pe_int (fun _ _ => rfl)) pe_int (nomark _)) (pss_one (ps_ret (pe_make T.mk_Lot (ok_Lot_init T) (hr.mono (by omega)) (by rfl) T.m_Lot T.b_Lot_init .nil pass0 (pa_cons (pe_callTy call_tuple_of (by rfl) T.z_tuple (by first | exact PySem.boot_tuple | decide +kernel) (pa_cons (pv 5) pa_nil)) pa_nil)))) pss_nil)
      (pss_cons (ps_if (pt_cmpR (op_eqD (eq_room hr)) (pv 1) (pv 2) (nomark _)) (pss_one (ps_ret (pe_make T.mk_Turn (ok_Turn_init T) (hr.mono (by omega)) (by rfl) T.m_Turn T.b_Turn_init .nil pass0 (pa_cons (pe_ix ix_tup (pv 4) pe_int (fun _ _ => rfl)) (pa_cons (pv 3) (pa_cons (pe_callTy call_tuple_of (by rfl) T.z_tuple (by first | exact PySem.boot_tuple | decide +kernel) (pa_cons (pv 5) pa_nil)) pa_nil)))))) pss_nil)
      (pss_one (ps_ret (pe_make T.mk_Turn (ok_Turn_init T) (hr.mono (by omega)) (by rfl) T.m_Turn T.b_Turn_init .nil pass0 (pa_cons (pe_ix ix_tup (pv 4) pe_int (fun _ _ => rfl)) (pa_cons (pe_call (ok_law_asked T) (hr.mono (by omega)) (by rfl) T.m_law_asked T.F_law_asked.kp T.b_law_asked .nil pass0 (pa_cons (pv 0) (pa_cons (pv 1) pa_nil))) (pa_cons (pe_callTy call_tuple_of (by rfl) T.z_tuple (by first | exact PySem.boot_tuple | decide +kernel) (pa_cons (pv 5) pa_nil)) pa_nil)))))))))))), ?_⟩
  refine ⟨_, rfl, pa, _, rfl, .inl (SqL.of hp), _, rfl, a, _, rfl, .inl (SqL.of ha), rfl, _, rfl, ite2 (fun c => ?_) (fun c => ?_)⟩
  · have c' : p.length = ss.length := by
      have := V.int.inj (of_decide_eq_true c)
      omega
    have e0 : ss.length - p.length = 0 := by omega
    rw [e0] at q
    intro x dx nx nd ne
    exact ⟨x, dx, .int 0, rfl, upd_same, fun H' b e => ⟨rfl, q _ H' (mk_same nx nd b) (.fin e)⟩⟩
  have c' : p.length < ss.length := by
    have : ¬ p.length = ss.length := fun z => c (decide_eq_true (by rw [lpt, lvs, z]))
    omega
  obtain ⟨U, sg, gv, hs, hU⟩ := ss_get pvs c'
  have hnth := nth_at hs
  have sok := hok sg (List.mem_of_getElem? hs)
  obtain ⟨sz, esz⟩ := Int.eq_ofNat_of_zero_le (show 0 ≤ sg.2.1 by have := sok.2.1.1; omega)
  have sz3 : sz ≤ 3 := by have := sok.2.1.2; omega
  refine ⟨_, rfl, _, rfl, pa, _, rfl, .inl (SqL.of hp), a, vs, _, .ref U, rfl, rfl, SqL.of ha, at_ofG (j := p.length) (by rw [lpt]) gv, by show 0 ≤ sizeLine; decide, fun L fL => ?_⟩
  have sL := same_upd (o := .lst []) fL
  let kid : Nat → Tr := fun k => chg ss (snP ss o ds) (ss.length - p.length - 1) (p ++ [k])
  refine ⟨_, rfl, U, _, 1, .int sg.2.1, rfl, rfl, SqT.of (sL _ _ hU), atI_nat (j := 1) rfl, sg.2.1, rfl, by omega, by omega, for_range (fun i σ' H' => ∃ (y6 : Option V) (xs : List V), σ' = [some (.ref a), some (.ref pa), some plv, some vv, some (.ref U), some (.ref L), y6] ∧ Same H H' ∧ H' L = some (.lst xs) ∧ TrA T.C_End T.C_Lot T.C_Turn H' xs ((List.range i).map kid) ∧ xs.length = i) ⟨_, [], rfl, sL, upd_same, .nil, rfl⟩ ?_ ?_⟩
  · rintro i σ1 H1 hi ⟨y6, xs, rfl, s1, e1, t1, l1⟩
    have hi3 : i < 3 := by omega
    refine ⟨_, rfl, .inl ⟨rfl, _, SqL.of e1⟩, _, rfl, _, rfl, _, rfl, by show 1 ≤ sizeLine; decide, fun B fB => ?_⟩
    have sB := same_upd (o := .lst [V.int (0 + (i : Int))]) fB
    refine ⟨pa, B, _, _, rfl, rfl, sB _ _ (s1 _ _ hp), upd_same, small_le (by rw [lpt]; show _ + 1 ≤ _; omega), fun C fC => ?_⟩
    have sC := same_upd (o := .lst (pthL p ++ [V.int (0 + (i : Int))])) fC
    have s2 := s1.trans (sB.trans sC)
    have eC : upd (upd H1 B (.lst [V.int (0 + (i : Int))])) C (.lst (pthL p ++ [V.int (0 + (i : Int))])) C = some (.lst (pthL (p ++ [i]))) := by
      rw [upd_same]
      unfold pthL
      rw [List.map_append, Int.zero_add]
      rfl
    have lp1 : (p ++ [i]).length = p.length + 1 := by rw [List.length_append]; rfl
    refine ⟨_, rfl, _, rfl, a, C, plv, vv, ss, p ++ [i], o, ds, rfl, hss.same s2, hok, h4, eC, by omega, by omega, by omega, hpl.same s2, hpo, him.keep (keepT_of s2), fun v H3 s3 t3 => ?_⟩
    have e3 := s3 _ _ (sC _ _ (sB _ _ e1))
    rw [lp1, show ss.length - (p.length + 1) = ss.length - p.length - 1 by omega] at t3
    refine ⟨L, xs, _, rfl, rfl, e3, Nat.lt_of_le_of_lt (show xs.length ≤ 999 by omega) (small1000 (by omega)), _, xs ++ [v], rfl, fun b w e => ?_, upd_same, ?_, by rw [List.length_append, l1]; rfl⟩
    · rw [upd_ne (ne_of_none e fL)]
      exact s3 _ _ (s2 _ _ e)
    · have kL := keepN_lst (ys := xs ++ [v]) e3
      rw [List.range_succ, List.map_append]
      exact TrA.snoc (t1.keep ((keepN_of ((sB.trans sC).trans s3)).trans kL)) (t3.keep kL)
  · rintro σ1 H1 ⟨y6, xs, rfl, s1, e1, t1, l1⟩
    have sz' : sg.2.1.toNat = sz := by rw [esz]; rfl
    have et : chg ss (snP ss o ds) (ss.length - p.length) p = (if sg.1 = 0 then .lot ((List.range sg.2.1.toNat).map kid) else .turn sg.1 (snP ss o ds p) ((List.range sg.2.1.toNat).map kid)) := by
      rw [show ss.length - p.length = (ss.length - p.length - 1) + 1 by omega]
      show (if (nth ss p.length).1 = 0 then _ else _) = _
      rw [hnth]
    rw [et] at q
    refine ⟨_, rfl, U, _, 0, .int sg.1, rfl, rfl, SqT.of (s1 _ _ hU), atI_nat (j := 0) rfl, rfl, _, rfl, ite2 (fun c => ?_) (fun c => ?_)⟩
    · have c0 : sg.1 = 0 := V.int.inj (of_decide_eq_true c)
      rw [if_pos c0] at q
      refine ⟨_, rfl, L, xs, rfl, .inl ⟨SqL.of e1, fun W fW => ?_⟩⟩
      have sW := same_upd (o := .tup xs) fW
      intro x dx nx nd ne
      have sU := mk_sameU (o1 := .own x) (o2 := .ins T.C_Lot dx []) nx nd
      refine ⟨x, dx, W, xs, rfl, upd_same, sU _ _ upd_same, fun H' b e => ⟨rfl, ?_⟩⟩
      have sH := mk_same nx nd b
      exact q _ H' (s1.trans (sW.trans sH)) (.lot e (sH _ _ upd_same) (t1.same (sW.trans sH)))
    · have c0 : ¬ sg.1 = 0 := fun z => c (decide_eq_true (congrArg V.int z))
      rw [if_neg c0] at q
      have fin : ∀ (w : Addr) (H2 : Hp), Same H1 H2 → Im H2 (.ref w) (.tuple (snP ss o ds p)) → ∀ (W : Addr), H2 W = none → ∀ x dx, upd H2 W (.tup xs) x = none → upd H2 W (.tup xs) dx = none → dx ≠ x → sp_Turn_init T [.ref x, .int sg.1, .ref w, .ref W] (upd (upd (upd H2 W (.tup xs)) dx (.own x)) x (.ins T.C_Turn dx [])) (fun v H3 => v = .non ∧ Q (.ref x) H3) E0 := fun w H2 s2 i2 W fW x dx nx nd ne => by
        have sW := same_upd (o := .tup xs) fW
        have sU := mk_sameU (o1 := .own x) (o2 := .ins T.C_Turn dx []) nx nd
        cases id i2 with
        | @tup _ es _ hv hA =>
        refine ⟨x, dx, w, W, sg.1, es, xs, rfl, upd_same, sU _ _ (sW _ _ hv), sU _ _ upd_same, fun H' b e => ⟨rfl, ?_⟩⟩
        have sH := mk_same nx nd b
        have s12 := s2.trans (sW.trans sH)
        exact q _ H' (s1.trans s12) (.turn e (i2.keep (keepT_of (sW.trans sH))) (sH _ _ upd_same) (t1.same s12))
      refine ⟨_, rfl, _, rfl, _, _, pla_V (o := some p) ⟨pa, rfl, s1 _ _ hp⟩, pla_V (hpl.same s1), pla_sh (fun w z => by cases z; omega), pla_sh (fun w z => by have := hpo w z; omega), _, rfl, ite2 (fun d => ?_) (fun d => ?_)⟩
      · rw [pla_eq] at d
        have d' := of_decide_eq_true d
        have e5 : snP ss o ds p = ds := by unfold snP; rw [if_pos d']
        cases him with
        | @tup w es _ hv hA =>
        refine ⟨_, rfl, U, _, 0, .int sg.1, rfl, rfl, SqT.of (s1 _ _ hU), atI_nat (j := 0) rfl, _, rfl, _, rfl, L, xs, rfl, .inl ⟨SqL.of e1, fun W fW => ?_⟩⟩
        exact fin w H1 (fun _ _ z => z) (by rw [e5]; exact .tup (s1 _ _ hv) (hA.keep (keepT_of s1))) W fW
      · rw [pla_eq] at d
        have d' : ¬ some p = o := fun z => d (decide_eq_true z)
        have e5 : snP ss o ds p = asked ss p := by unfold snP; rw [if_neg d']
        refine ⟨_, rfl, U, _, 0, .int sg.1, rfl, rfl, SqT.of (s1 _ _ hU), atI_nat (j := 0) rfl, _, rfl, _, rfl, a, pa, ss, p, rfl, hss.same s1, s1 _ _ hp, c', h4, fun w H2 s2 i2 => ?_⟩
        refine ⟨_, rfl, L, xs, rfl, .inl ⟨SqL.of (s2 _ _ e1), fun W fW => ?_⟩⟩
        exact fin w H2 s2 (by rw [e5]; exact i2) W fW
theorem ok_law_changed (T : Txt K mg) : ∀ n, FnOk P w K mg base CX0 (2 + n) T.a_law_changed T.d_law_changed ["stages", "path", "place", "view"] (sp_law_changed T n)
  | 0 => ⟨fun vs H Q E h => absurd h (no_law_changed T vs H Q E), fun A outer s H args us vs Q E _ _ _ _ h => absurd h (no_law_changed T vs H Q E)⟩
  | n + 1 => step_law_changed T (ok_law_changed T n)
/-! ### _law_last -/
def sp_law_last (T : Txt K mg) : Sp := fun vs H Q _ => ∃ (a : Addr) (ds : List PyData), vs = [.ref a] ∧ Im H (.ref a) (.tuple ds) ∧ (∀ d ∈ ds, EvP d) ∧ ds.length ≤ 900 ∧ ∀ v H', Same H H' → Im H' v (rowD (lastRow ds)) → Q v H'
theorem drop_pred {α : Type} {xs : List α} {j : Nat} {x : α} (h : xs[j]? = some x) : xs.drop j = x :: xs.drop (j + 1) := by
  have hl := (List.getElem?_eq_some_iff.mp h)
  obtain ⟨h1, h2⟩ := hl
  rw [List.drop_eq_getElem_cons h1, h2]

theorem ok_law_last (T : Txt K mg) : FnOk P w K mg base CX0 1 T.a_law_last T.d_law_last ["view"] (sp_law_last T) := by
  refine T.F_law_last.ok sc_law_last (fun vs H Q E h => ?_) (fun cdv A outer s H vs Q E hr h => ?_)
  · obtain ⟨a, ds, rfl, _⟩ := h
    rfl
  obtain ⟨a, ds, rfl, hI, he, hl, q⟩ := h
  cases id hI with
  | @tup _ xs _ hT hA =>
  have lx := hA.len
  refine ⟨_, (pss_cons (ps_for PassesOwn.never rfl (pi_range1 (by rfl) T.z_range (pa_cons (pe_callB call_len_seq (by rfl) T.z_len (by first | exact PySem.boot_len | decide +kernel) (pa_cons (pv 0) pa_nil)) pa_nil)) (pg_name (i := 1) sc_law_last.nd rfl (by first | exact Or.inl rfl | exact Or.inr rfl)) (pss_cons (ps_set (i := 2) sc_law_last.nd rfl (by first | exact Or.inl rfl | exact Or.inr rfl) (pe_op op_sub (pe_op op_sub (pe_callB call_len_seq (by rfl) T.z_len (by first | exact PySem.boot_len | decide +kernel) (pa_cons (pv 0) pa_nil)) pe_int) (pv 1)))
      (pss_one (ps_if (pt_cmpR op_eq (pe_ix ix_tup (pe_ix ix_tup (pv 0) (pv 2) (fun _ _ => rfl)) pe_int (fun _ _ => rfl)) pe_str (nomark _)) (pss_one (ps_ret (pe_tup (pa_cons (pe_slice sl_tup (pv 0) po_none (po_some (pv 2))) (pa_cons (pe_ix ix_tup (pe_ix ix_tup (pv 0) (pv 2) (fun _ _ => rfl)) pe_int (fun _ _ => rfl)) pa_nil))))) pss_nil))))
      (pss_one (ps_ret pe_non))), ?_⟩
  refine ⟨_, rfl, a, _, rfl, .inr (SqT.of hT), ((xs.length : Nat) : Int), rfl, by omega, by omega, for_range (fun i σ' H' => ∃ (y1 y2 : Option V), σ' = [some (.ref a), y1, y2] ∧ H' = H ∧ ∀ e ∈ ds.drop (ds.length - i), didOf e = none) ⟨_, _, rfl, rfl, by rw [Nat.sub_zero, List.drop_length]; exact fun _ m => by cases m⟩ ?_ ?_⟩
  · rintro i σ1 H1 hi ⟨y1, y2, rfl, rfl, h1⟩
    have hi' : i < ds.length := by omega
    obtain ⟨j, hj⟩ : ∃ j, j + i + 1 = ds.length := ⟨ds.length - 1 - i, by omega⟩
    have gd : ds[j]? = some ds[j] := List.getElem?_eq_getElem (by omega)
    obtain ⟨vj, gv, iv⟩ := hA.get gd
    obtain ⟨⟨lay, sn, rest, ed, hd⟩, _⟩ := he ds[j] (List.getElem_mem _)
    rw [show ds.length - i = j + 1 by omega] at h1
    have ej : (((xs.length : Nat) : Int) - 1 - (0 + (i : Int))) = ((j : Nat) : Int) := by omega
    rw [ed] at iv
    cases iv with
    | @tup b ys _ hb hB =>
    cases hB with
    | @cons v0 vr _ _ i0 ir =>
    cases i0
    refine ⟨_, rfl, a, _, rfl, .inr (SqT.of hT), _, _, rfl, rfl, _, rfl, _, _, rfl, rfl, ?_⟩
    refine ⟨_, rfl, _, rfl, a, xs, _, .ref b, rfl, rfl, SqT.of hT, at_ofG (j := j) ej gv, b, _, 0, .str sn, rfl, rfl, SqT.of hb, atI_nat (j := 0) rfl, rfl, _, rfl, ite2 (fun c => ?_) (fun c => ?_)⟩
    · have c' : sn = "did" := V.str.inj (of_decide_eq_true c)
      obtain ⟨kk, rfl⟩ := hd c'
      cases ir with
      | @cons v1 vr1 _ _ i1 ir1 =>
      cases i1
      cases ir1
      have ls : lastRow ds = some (ds.take j, kk) := by
        have e1 : ds = (ds.take j ++ [ds[j]]) ++ ds.drop (j + 1) := by
          rw [List.append_assoc, List.singleton_append, ← drop_pred gd, List.take_append_drop]
        rw [e1, lastRow_none _ h1, lastRow_snoc_some _ _ kk (by rw [ed, c']; exact didOf_did kk), ← e1]
      refine ⟨_, rfl, _, rfl, _, rfl, a, xs, rfl, SqT.of hT, ?_, fun w hw => ?_⟩
      · rw [ej, HT.sIx_none, HT.sIx_nat]
        intro z
        have := z.2
        omega
      rw [ej, cut_to]
      have s2 := same_upd (o := .tup (xs.take j)) hw
      have e2 := upd_same (H := H1) (a := w) (o := .tup (xs.take j))
      refine ⟨_, rfl, _, rfl, a, xs, _, .ref b, rfl, rfl, SqT.of (s2 _ _ hT), at_ofG (j := j) ej gv, b, _, 1, .int kk, rfl, rfl, SqT.of (s2 _ _ hb), atI_nat (j := 1) rfl, by show 2 ≤ sizeLine; decide, fun p hp => ?_⟩
      have s3 := same_upd (o := .tup [V.ref w, .int kk]) hp
      refine q (.ref p) _ (s2.trans s3) ?_
      rw [ls]
      exact .tup upd_same (.cons (.tup (s3 _ _ e2) ((hA.take j).keep (keepT_of (s2.trans s3)))) (.cons (.int kk) .nil))
    · have c' : sn ≠ "did" := fun z => c (decide_eq_true (by rw [z]))
      refine ⟨_, _, rfl, rfl, ?_⟩
      rw [show ds.length - (i + 1) = j by omega, drop_pred gd]
      intro e m
      rcases List.mem_cons.mp m with rfl | m
      · rw [ed]
        exact didOf_ne c'
      · exact h1 e m
  · rintro σ1 H1 ⟨y1, y2, rfl, rfl, h1⟩
    refine q .non H1 (fun _ _ z => z) ?_
    have ln : ((xs.length : Nat) : Int).toNat = ds.length := by omega
    rw [ln, Nat.sub_self, List.drop_zero] at h1
    have := lastRow_none ds h1 []
    rw [List.nil_append] at this
    rw [this]
    exact .non
/-! ### _law_keeps -/
def rowsV (H : Hp) (L : Addr) (a b : Option Row) : Prop := ∃ x y, H L = some (.lst [.non, x, y]) ∧ Im H x (rowD a) ∧ Im H y (rowD b)
theorem view_evp (ss : List Sg) (p : List Nat) (pl : Int) : ∀ k, ∀ d ∈ viewN ss p pl k, EvP d := fun k d m => ⟨view_ev ss p pl k d m, by
  have evm : ∀ n z, plD (evMove n z) = true := fun n z => by simp [evMove, plD, plAll]
  have evd : ∀ z, plD (evDid z) = true := fun z => by simp [evDid, plD, plAll]
  have evt : ∀ z, plD (evTold z) = true := fun z => by simp [evTold, plD, plAll]
  have evr : ∀ z, plD (evRound z) = true := fun z => by simp [evRound, plD, plAll]
  induction k with
  | zero => rw [List.mem_singleton.mp m]; exact evr 0
  | succ k ih =>
    rcases List.mem_append.mp m with m | m
    · exact ih m
    rcases List.mem_append.mp m with m | m
    · unfold rndOf at m
      split at m
      · rw [List.mem_singleton.mp m]; exact evr _
      · cases m
    · unfold evsOf at m
      rcases List.mem_append.mp m with m | m
      · split at m
        · rcases List.mem_cons.mp m with rfl | m
          · exact evm _ _
          · rw [List.mem_singleton.mp m]; exact evd _
        · cases m
      · split at m
        · rw [List.mem_singleton.mp m]; exact evt _
        · cases m⟩
theorem asked_evp (ss : List Sg) (p : List Nat) : ∀ d ∈ asked ss p, EvP d := fun d m => by
  refine ⟨asked_ev ss p d m, ?_⟩
  rcases List.mem_append.mp m with m | m
  · rcases List.mem_append.mp m with m | m
    · exact (view_evp ss p _ _ d m).2
    · unfold rndOf at m
      split at m
      · rw [List.mem_singleton.mp m]; simp [evRound, plD, plAll]
      · cases m
  · rw [List.mem_singleton.mp m]; simp [evMove, plD, plAll]
theorem sn_ok {ss : List Sg} {o : Option (List Nat)} {ds : List PyData} (h4 : ss.length ≤ 4) (he : ∀ d ∈ ds, EvP d) (hl : ds.length ≤ 100) {p : List Nat} (hp : p.length ≤ 4) : (∀ d ∈ snP ss o ds p, EvP d) ∧ (snP ss o ds p).length ≤ 100 := by
  unfold snP
  split
  · exact ⟨he, hl⟩
  · have := asked_len ss p
    exact ⟨asked_evp ss p, by omega⟩
def sp_law_keeps (T : Txt K mg) : Sp := fun vs H Q _ => ∃ (a : Addr) (plv vv : V) (ss : List Sg) (o : Option (List Nat)) (ds : List PyData), vs = [.ref a, plv, vv] ∧ StgsV H a ss ∧ (∀ s ∈ ss, SgOk s) ∧ ss.length ≤ 4 ∧ PlV H plv o ∧ (∀ q, o = some q → q.length ≤ 10) ∧ Im H vv (.tuple ds) ∧ (∀ d ∈ ds, EvP d) ∧ ds.length ≤ 100 ∧
  ∀ (b : Bool) (H' : Hp), Same H H' → (b = true ↔ Keeps ss (snP ss o ds)) → Q (.bl b) H'

theorem ok_law_keeps (T : Txt K mg) : FnOk P w K mg base CX0 3 T.a_law_keeps T.d_law_keeps ["stages", "place", "view"] (sp_law_keeps T) := by
  refine T.F_law_keeps.ok sc_law_keeps (fun vs H Q E h => ?_) (fun cdv A outer s H vs Q E hr h => ?_)
  · obtain ⟨a, plv, vv, ss, o, ds, rfl, _⟩ := h
    rfl
  obtain ⟨a, plv, vv, ss, o, ds, rfl, hss, hok, h4, hpl, hpo, him, he, hl, q⟩ := h
  refine ⟨_, (pss_cons (ps_for PassesOwn.never rfl (pi_list (pe_call (ok_law_paths T) (hr.mono (by decide)) (by rfl) T.m_law_paths T.F_law_paths.kp T.b_law_paths .nil pass0 (pa_cons (pv 0) pa_nil))) (pg_name (i := 3) sc_law_keeps.nd rfl (by first | exact Or.inl rfl | exact Or.inr rfl)) (pss_cons (ps_set (i := 4) sc_law_keeps.nd rfl (by first | exact Or.inl rfl | exact Or.inr rfl) (pe_lst (pa_cons pe_non (pa_cons pe_non (pa_cons pe_non pa_nil)))))
      (pss_one (ps_for PassesOwn.never rfl (pi_range1 (by rfl) T.z_range (pa_cons (pe_callB call_len_seq (by rfl) T.z_len (by first | exact PySem.boot_len | decide +kernel) (pa_cons (pv 0) pa_nil)) pa_nil)) (pg_name (i := 5) sc_law_keeps.nd rfl (by first | exact Or.inl rfl | exact Or.inr rfl)) (pss_cons (ps_set (i := 6) sc_law_keeps.nd rfl (by first | exact Or.inl rfl | exact Or.inr rfl) (pe_ix ix_tup (pe_ix ix_list (pv 0) (pv 5) (fun _ _ => rfl)) pe_int (fun _ _ => rfl)))
      (pss_one (ps_if (pt_cmpR op_ne (pv 6) pe_int (nomark _)) (pss_cons (ps_set (i := 7) sc_law_keeps.nd rfl (by first | exact Or.inl rfl | exact Or.inr rfl) (pe_call (ok_law_asked T) (hr.mono (by decide)) (by rfl) T.m_law_asked T.F_law_asked.kp T.b_law_asked .nil pass0 (pa_cons (pv 0) (pa_cons (pe_slice sl_list (pv 3) po_none (po_some (pv 5))) pa_nil))))
      (C8.pss_cut (ps_if (pt_cmpR (op_eqD (eq_room hr)) (pe_slice sl_list (pv 3) po_none (po_some (pv 5))) (pv 1) (nomark _)) (pss_one (ps_set (i := 7) sc_law_keeps.nd rfl (by first | exact Or.inl rfl | exact Or.inr rfl) (pv 2))) pss_nil)
      (pss_cons (ps_if (pt_cmpR (op_neD hr.units) (pe_call (ok_law_last T) (hr.mono (by decide)) (by rfl) T.m_law_last T.F_law_last.kp T.b_law_last .nil pass0 (pa_cons (pv 7) pa_nil)) (pe_ix ix_list (pv 4) (pv 6) (fun _ _ => rfl)) (nomark _)) (pss_one (ps_ret pe_bl)) pss_nil)
      (pss_one (ps_asg (pe_tup (pa_cons (pv 7) (pa_cons (pe_ix ix_list (pv 3) (pv 5) (fun _ _ => rfl)) pa_nil))) (pg_sub (pv 4) (pv 6) set_list)))))) pss_nil)))))))
      (pss_one (ps_ret pe_bl))), ?_⟩
  refine ⟨_, rfl, a, ss, rfl, hss, hok, h4, fun P pv H1 s1 nP eP pp => ⟨P, rfl, ⟨_, SqL.of eP⟩, for_list (K := K) (a := P) (xs := pv) (fun i σ' H' => ∃ y3 y4 y5 y6 y7 : Option V, σ' = [some (.ref a), some plv, some vv, y3, y4, y5, y6, y7] ∧ Same H1 H' ∧ ∀ w ∈ (pathsOf ss).take i, keepF ss (snP ss o ds) w ss.length 0 none none) ⟨_, _, _, _, _, rfl, (fun _ _ z => z), fun _ m => (by cases m)⟩ (fun i σ' H' _ h => ?_) ?_ ?_⟩⟩
  · obtain ⟨_, _, _, _, _, _, s2, _⟩ := h
    exact SqL.of (s2 _ _ eP)
  · rintro i x σ1 H2 hx ⟨y3, y4, y5, y6, y7, rfl, s2, h2⟩
    obtain ⟨w, hw, B, rfl, hB⟩ := pgetS pp hx
    have mw := List.mem_of_getElem? hw
    have gq := (good_paths w).mp mw
    have hB2 := s2 _ _ hB
    obtain ⟨vs, ha, pvs⟩ := id hss
    have lvs := paired_lenS pvs
    have s12 := s1.trans s2
    refine ⟨by show 3 ≤ sizeLine; decide, fun L fL => ?_⟩
    have sL := same_upd (o := .lst [V.non, .non, .non]) fL
    have rok0 : Rok none := fun _ _ z => by cases z
    refine ⟨_, rfl, a, _, rfl, .inl (SqL.of (sL _ _ (s12 _ _ ha))), ((vs.length : Nat) : Int), rfl, by omega, by omega, for_range (fun t σ' H' => ∃ (y5 y6 y7 : Option V) (ra rb : Option Row), σ' = [some (.ref a), some plv, some vv, some (.ref B), some (.ref L), y5, y6, y7] ∧ Same H2 H' ∧ rowsV H' L ra rb ∧ (Rok ra ∧ Rok rb) ∧ (keepF ss (snP ss o ds) w ss.length 0 none none ↔ keepF ss (snP ss o ds) w (ss.length - t) t ra rb)) ⟨_, _, _, none, none, rfl, sL, ⟨_, _, upd_same, .non, .non⟩, ⟨rok0, rok0⟩, Iff.rfl⟩ ?_ ?_⟩
    · rintro t σ3 H3 ht ⟨y5, y6, y7, ra, rb, rfl, s3, ⟨vx, vy, e3, ix, iy⟩, ⟨ka, kb⟩, iff3⟩
      have ht' : t < ss.length := by omega
      obtain ⟨U, sg, gv, hs, hU⟩ := ss_get pvs ht'
      have hn := nth_at hs
      have sok := hok sg (List.mem_of_getElem? hs)
      have e0 : (0 : Int) + (t : Int) = ((t : Nat) : Int) := Int.zero_add _
      have s03 := s12.trans s3
      have wt : (w.take t).length = t := by rw [List.length_take, gq.1]; omega
      have kf : keepF ss (snP ss o ds) w (ss.length - t) t ra rb ↔ (if sg.1 = 0 then keepF ss (snP ss o ds) w (ss.length - (t + 1)) (t + 1) ra rb
          else lastRow (snP ss o ds (w.take t)) = (if sg.1 = 1 then ra else rb) ∧
            keepF ss (snP ss o ds) w (ss.length - (t + 1)) (t + 1) (if sg.1 = 1 then some (snP ss o ds (w.take t), ((w.getD t 0 : Nat) : Int)) else ra) (if sg.1 = 1 then rb else some (snP ss o ds (w.take t), ((w.getD t 0 : Nat) : Int)))) := by
        rw [show ss.length - t = (ss.length - (t + 1)) + 1 by omega]
        show (if (nth ss t).1 = 0 then _ else _) ↔ _
        rw [hn]
      refine ⟨_, rfl, _, rfl, a, vs, _, .ref U, rfl, rfl, SqL.of (s03 _ _ ha), at_of e0 gv, U, _, 0, .int sg.1, rfl, rfl, SqT.of (s03 _ _ hU), atI_nat (j := 0) rfl, ?_⟩
      refine ⟨_, rfl, rfl, _, rfl, ite2 (fun c => ?_) (fun c => ?_)⟩
      · have c' : sg.1 ≠ 0 := fun z => by rw [z] at c; simp at c
        rw [if_neg c'] at kf
        have ecut : cutV (pthL w) none (some (0 + (t : Int))) = pthL (w.take t) := by
          rw [e0, cut_to]
          unfold pthL
          rw [List.map_take]
        refine ⟨_, rfl, _, rfl, _, rfl, _, rfl, B, pthL w, rfl, SqL.of (s3 _ _ hB2), fun W fW => ?_⟩
        rw [ecut]
        have sW := same_upd (o := .lst (pthL (w.take t))) fW
        refine ⟨a, W, ss, w.take t, rfl, hss.same (s03.trans sW), upd_same, by omega, h4, fun v0 H4 s4 i4 => ?_⟩
        have s34 := sW.trans s4
        have e4 := s34 _ _ e3
        have s24 := s3.trans s34
        have ix4 := ix.keep (keepT_of s34)
        have iy4 := iy.keep (keepT_of s34)
        have sno := sn_ok (ss := ss) (o := o) h4 he hl (p := w.take t) (by omega)
        refine ⟨fun σ' H' => ∃ v1 : Addr, σ' = [some (.ref a), some plv, some vv, some (.ref B), some (.ref L), some (.int (0 + (t : Int))), some (.int sg.1), some (.ref v1)] ∧ Same H4 H' ∧ Im H' (.ref v1) (.tuple (snP ss o ds (w.take t))), ?_, ?_⟩
        · refine ⟨_, rfl, _, rfl, _, rfl, B, pthL w, rfl, SqL.of (s24 _ _ hB2), fun W2 fW2 => ?_⟩
          rw [ecut]
          have sW2 := same_upd (o := .lst (pthL (w.take t))) fW2
          refine ⟨_, rfl, _, _, pla_V (o := some (w.take t)) ⟨W2, rfl, upd_same⟩, pla_V (hpl.same ((s12.trans s24).trans sW2)), pla_sh (fun z e => by cases e; omega), pla_sh (fun z e => by have := hpo z e; omega), _, rfl, ite2 (fun d => ?_) (fun d => ?_)⟩
          · rw [pla_eq] at d
            have d' := of_decide_eq_true d
            have e5 : snP ss o ds (w.take t) = ds := by unfold snP; rw [if_pos d']
            cases him with
            | @tup z0 es _ hv hA =>
            refine ⟨_, rfl, z0, rfl, sW2, ?_⟩
            rw [e5]
            exact Im.keep (keepT_of ((s12.trans s24).trans sW2)) (.tup hv hA)
          · rw [pla_eq] at d
            have d' : ¬ some (w.take t) = o := fun z => d (decide_eq_true z)
            have e5 : snP ss o ds (w.take t) = asked ss (w.take t) := by unfold snP; rw [if_neg d']
            exact ⟨v0, rfl, sW2, by rw [e5]; exact i4.keep (keepT_of sW2)⟩
        rintro σ5 H5 ⟨v1, rfl, s5, i5⟩
        have pl12 : sg.1 = 1 ∨ sg.1 = 2 := by have := sok.1; omega
        have lrok : Rok (lastRow (snP ss o ds (w.take t))) := fun v' k' e => ⟨lastRow_evp e sno.1, by have := (lastRow_len e).1; omega⟩
        have dsok : ∀ z : Int, Rok (some (snP ss o ds (w.take t), z)) := fun z v' k' e => by cases e; exact ⟨sno.1, by omega⟩
        refine ⟨_, rfl, v1, _, rfl, i5, sno.1, by omega, fun lv H6 s6 i6 => ?_⟩
        have e6 := s6 _ _ (s5 _ _ e4)
        have s46 := s5.trans s6
        have ix6 := ix4.keep (keepT_of s46)
        have iy6 := iy4.keep (keepT_of s46)
        obtain ⟨rr, vr, atr, ir, kr, err⟩ : ∃ (rr : Option Row) (vr : V), atI [V.non, vx, vy] sg.1 = some vr ∧ Im H6 vr (rowD rr) ∧ Rok rr ∧ rr = (if sg.1 = 1 then ra else rb) := by
          rcases pl12 with e | e <;> rw [e]
          · exact ⟨ra, vx, atI_nat (j := 1) rfl, ix6, ka, rfl⟩
          · exact ⟨rb, vy, atI_nat (j := 2) rfl, iy6, kb, rfl⟩
        refine ⟨_, rfl, _, rfl, L, _, sg.1, vr, rfl, rfl, SqL.of e6, atr, _, _, i6.dp, ir.dp, (rowD_lay lrok).shaped (by omega), (rowD_lay kr).shaped (by omega), _, rfl, ite2 (fun d => ?_) (fun d => ?_)⟩
        · have dne := (rows_ne lrok kr).mp d
          refine q false H6 ((s12.trans s24).trans s46) ⟨fun z => (by cases z), fun hk => absurd ?_ dne⟩
          rw [err]
          exact (kf.mp (iff3.mp (hk w mw))).1
        · have eq : lastRow (snP ss o ds (w.take t)) = rr := Classical.byContradiction fun z => d ((rows_ne lrok kr).mpr z)
          refine ⟨_, rfl, _, rfl, _, rfl, B, _, _, .int ((w.getD t 0 : Nat) : Int), rfl, rfl, SqL.of (s46 _ _ (s24 _ _ hB2)), path_at (by rw [gq.1]; exact ht') e0, by show 2 ≤ sizeLine; decide, fun R fR => ?_⟩
          have sR := same_upd (o := .tup [V.ref v1, .int ((w.getD t 0 : Nat) : Int)]) fR
          have e7 := sR _ _ e6
          have iff4 : keepF ss (snP ss o ds) w ss.length 0 none none ↔ keepF ss (snP ss o ds) w (ss.length - (t + 1)) (t + 1) (if sg.1 = 1 then some (snP ss o ds (w.take t), ((w.getD t 0 : Nat) : Int)) else ra) (if sg.1 = 1 then rb else some (snP ss o ds (w.take t), ((w.getD t 0 : Nat) : Int))) := by
            rw [iff3, kf]
            exact ⟨fun h => h.2, fun h => ⟨by rw [eq, err], h⟩⟩
          have nR : R ≠ L := (ne_of_none e6 fR).symm
          by_cases e : sg.1 = 1
          · rw [if_pos e, if_pos e] at iff4
            refine ⟨_, rfl, _, rfl, L, _, sg.1, 1, rfl, rfl, e7, by rw [e]; rfl, ?_⟩
            have k7 := keepT_lst (ys := [V.non, vx, vy].set 1 (.ref R)) e7
            refine ⟨_, _, _, some (snP ss o ds (w.take t), ((w.getD t 0 : Nat) : Int)), rb, rfl, fun b o' eb => ?_, ⟨.ref R, vy, upd_same, .tup (by rw [upd_ne nR]; exact upd_same) (.cons (i5.keep ((keepT_of (s6.trans sR)).trans k7)) (.cons (.int _) .nil)), iy6.keep ((keepT_of sR).trans k7)⟩, ⟨dsok _, kb⟩, iff4⟩
            rw [upd_ne (ne_of_none eb fL)]
            exact sR _ _ (s46 _ _ (s24 _ _ eb))
          · have e2 : sg.1 = 2 := by omega
            rw [if_neg e, if_neg e] at iff4
            refine ⟨_, rfl, _, rfl, L, _, sg.1, 2, rfl, rfl, e7, by rw [e2]; rfl, ?_⟩
            have k7 := keepT_lst (ys := [V.non, vx, vy].set 2 (.ref R)) e7
            refine ⟨_, _, _, ra, some (snP ss o ds (w.take t), ((w.getD t 0 : Nat) : Int)), rfl, fun b o' eb => ?_, ⟨vx, .ref R, upd_same, ix6.keep ((keepT_of sR).trans k7), .tup (by rw [upd_ne nR]; exact upd_same) (.cons (i5.keep ((keepT_of (s6.trans sR)).trans k7)) (.cons (.int _) .nil))⟩, ⟨ka, dsok _⟩, iff4⟩
            rw [upd_ne (ne_of_none eb fL)]
            exact sR _ _ (s46 _ _ (s24 _ _ eb))
      · have c' : sg.1 = 0 := by
          by_cases z : sg.1 = 0
          · exact z
          · exact absurd (by simp [z]) c
        rw [if_pos c'] at kf
        exact ⟨_, _, _, ra, rb, rfl, s3, ⟨vx, vy, e3, ix, iy⟩, ⟨ka, kb⟩, iff3.trans kf⟩
    · rintro σ3 H3 ⟨y5, y6, y7, ra, rb, rfl, s3, _, _, iff3⟩
      have n0 : ss.length - ((vs.length : Nat) : Int).toNat = 0 := by omega
      rw [n0] at iff3
      refine ⟨_, _, _, _, _, rfl, s2.trans s3, fun u mu => ?_⟩
      rw [List.take_add_one, hw] at mu
      rcases List.mem_append.mp mu with mu | mu
      · exact h2 u mu
      · have e : u = w := by simpa using mu
        rw [e]
        exact iff3.mpr trivial
  · rintro σ1 H2 ⟨y3, y4, y5, y6, y7, rfl, s2, h2⟩
    have lp := paired_lenS pp
    rw [lp, List.take_length] at h2
    exact q true H2 (s1.trans s2) ⟨fun _ => h2, fun _ => rfl⟩
/-! ### _law_spoilt -/
theorem did_evp (z : Int) : EvP (evDid z) := ⟨ev_did z, by simp [evDid, plD, plAll]⟩
theorem ImAll.dropS {H : Hp} : ∀ {vs : List V} {ds : List PyData} (i : Nat), ImAll H vs ds → ImAll H (vs.drop i) (ds.drop i)
  | _, _, 0, a => a
  | _, _, _ + 1, .nil => .nil
  | _, _, i + 1, .cons _ a => ImAll.dropS i a
def sp_law_spoilt (T : Txt K mg) : Sp := fun vs H Q _ => ∃ (a : Addr) (c : Int) (ds : List PyData), vs = [.ref a, .int c] ∧ Im H (.ref a) (.tuple ds) ∧ (∀ d ∈ ds, EvP d) ∧ ds.length ≤ 90 ∧
  ∀ (v : Addr) (H' : Hp) (es : List PyData), Same H H' → Im H' (.ref v) (.tuple es) → (∀ d ∈ es, EvP d) → es.length ≤ 100 → Q (.ref v) H'

theorem ok_law_spoilt (T : Txt K mg) : FnOk P w K mg base CX0 1 T.a_law_spoilt T.d_law_spoilt ["view", "cell"] (sp_law_spoilt T) := by
  refine T.F_law_spoilt.ok sc_law_spoilt (fun vs H Q E h => ?_) (fun cdv A outer s H vs Q E hr h => ?_)
  · obtain ⟨a, c, ds, rfl, _⟩ := h
    rfl
  obtain ⟨a, cc, ds, rfl, hI, he, hl, q⟩ := h
  cases id hI with
  | @tup _ xs _ hT hA =>
  have lx := hA.len
  have el : ∀ (j : Nat), j < ds.length → ∃ b sn vr rest, xs[j]? = some (.ref b) ∧ H b = some (.tup (V.str sn :: vr)) ∧ (sn = "did" → ∃ kk : Int, vr = [.int kk]) := fun j hj => by
    have gd : ds[j]? = some ds[j] := List.getElem?_eq_getElem hj
    obtain ⟨vj, gv, iv⟩ := hA.get gd
    obtain ⟨⟨lay, sn, rest, ed, hd⟩, _⟩ := he ds[j] (List.getElem_mem _)
    rw [ed] at iv
    cases iv with
    | @tup b ys _ hb hB =>
    cases hB with
    | @cons v0 vr _ _ i0 ir =>
    cases i0
    refine ⟨b, sn, vr, (), gv, hb, fun z => ?_⟩
    obtain ⟨kk, rfl⟩ := hd z
    cases ir with
    | @cons v1 vr1 _ _ i1 ir1 =>
    cases i1
    cases ir1
    exact ⟨kk, rfl⟩
  refine ⟨_, (pss_cons (ps_setLc (i := 2) (own := [("k", 3)]) (g := gName 3) rfl sc_law_spoilt.nd rfl rfl (sw_true rfl rfl rfl (by decide +kernel)) (pi_range1 (by rfl) T.z_range (pa_cons (pe_callB call_len_seq (by rfl) T.z_len (by first | exact PySem.boot_len | decide +kernel) (pa_cons (pv 0) pa_nil)) pa_nil)) (blkOk_by (N := N_law_spoilt) (sc := defScope s_law_spoilt) (by decide +kernel)) (fun _ _ _ _ _ => (pg_name (i := 3) sc_law_spoilt.nd rfl (by first | exact Or.inl rfl | exact Or.inr rfl))) (fun _ _ _ _ _ => pts_one (pt_cmpR op_eq (pe_ix (show IxR _ (rIxT K) from ix_tup) (pe_ix (show IxR _ (rIxT K) from ix_tup) (pv 0) (pv 3) (fun _ _ => rfl)) pe_int (fun _ _ => rfl)) pe_str (nomark _))) (fun _ _ _ _ _ => (pv 3)))
      (pss_cons (ps_if (pt_cmpR op_eq (pe_callB call_len_seq (by rfl) T.z_len (by first | exact PySem.boot_len | decide +kernel) (pa_cons (pv 2) pa_nil)) pe_int (nomark _)) (pss_one (ps_ret (pe_op op_catA (pe_tup (pa_cons (pe_tup (pa_cons pe_str (pa_cons (pe_op op_mod (pe_callTy call_int1 (by rfl) T.z_int (by first | exact PySem.boot_int | decide +kernel) (pa_cons (pv 1) pa_nil)) pe_int) pa_nil))) pa_nil)) (pv 0)))) pss_nil)
      (pss_cons (ps_set (i := 3) sc_law_spoilt.nd rfl (by first | exact Or.inl rfl | exact Or.inr rfl) (pe_ix ix_list (pv 2) (pe_op op_mod (pe_callTy call_int1 (by rfl) T.z_int (by first | exact PySem.boot_int | decide +kernel) (pa_cons (pv 1) pa_nil)) (pe_callB call_len_seq (by rfl) T.z_len (by first | exact PySem.boot_len | decide +kernel) (pa_cons (pv 2) pa_nil))) (fun _ _ => rfl)))
      (pss_one (ps_ret (pe_op op_catA (pe_op op_catA (pe_slice sl_tup (pv 0) po_none (po_some (pv 3))) (pe_tup (pa_cons (pe_tup (pa_cons pe_str (pa_cons (pe_op op_add (pe_op op_add (pe_ix ix_tup (pe_ix ix_tup (pv 0) (pv 3) (fun _ _ => rfl)) pe_int (fun _ _ => rfl)) pe_int) (pe_op op_mod (pe_op op_fdiv (pv 1) pe_int) pe_int)) pa_nil))) pa_nil))) (pe_slice sl_tup (pv 0) (po_some (pe_op op_add (pv 3) pe_int)) po_none))))))), ?_⟩
  refine ⟨_, rfl, a, _, rfl, .inr (SqT.of hT), ((xs.length : Nat) : Int), rfl, by omega, by omega, fun D hD => ?_⟩
  refine lc_range (fun i H' => Same H H' ∧ ∃ js : List Nat, H' D = some (.lst (pthL js)) ∧ (∀ j ∈ js, j < ds.length ∧ ∃ (b : Addr) (kk : Int), xs[j]? = some (.ref b) ∧ H b = some (.tup [.str "did", .int kk])) ∧ js.length ≤ i) ⟨same_upd hD, [], upd_same, (fun _ m => by cases m), Nat.le_refl _⟩ (fun i H2 hi h => ?_) (fun H2 h => ?_)
  · obtain ⟨s2, js, e2, m2, l2⟩ := h
    have hi' : i < ds.length := by omega
    have e0 : (0 : Int) + (i : Int) = ((i : Nat) : Int) := Int.zero_add _
    obtain ⟨b, sn, vr, _, gv, hb, hd⟩ := el i hi'
    refine ⟨rfl, ?_⟩
    refine ⟨_, rfl, _, rfl, a, xs, _, .ref b, rfl, rfl, SqT.of (s2 _ _ hT), at_of e0 gv, b, _, 0, .str sn, rfl, rfl, SqT.of (s2 _ _ hb), atI_nat (j := 0) rfl, rfl, _, rfl, ite2 (fun c => ?_) (fun c => ?_)⟩
    · have c' : sn = "did" := V.str.inj (of_decide_eq_true c)
      obtain ⟨kk, rfl⟩ := hd c'
      refine ⟨_, rfl, _, e2, Nat.lt_of_le_of_lt (show (pthL js).length ≤ 999 by unfold pthL; rw [List.length_map]; omega) (small1000 (by omega)), fun b' o e => ?_, js ++ [i], ?_, fun j mj => ?_, by rw [List.length_append]; show _ + 1 ≤ _; omega⟩
      · rw [upd_ne (ne_of_none e hD)]
        exact s2 _ _ e
      · rw [upd_same]
        unfold pthL
        rw [List.map_append, e0]
        rfl
      · rcases List.mem_append.mp mj with mj | mj
        · exact m2 j mj
        · rw [List.mem_singleton.mp mj]
          exact ⟨hi', b, kk, gv, by rw [← c']; exact hb⟩
    · exact ⟨s2, js, e2, m2, by omega⟩
  obtain ⟨s2, js, e2, m2, l2⟩ := h
  have ljs : (pthL js).length = js.length := List.length_map _
  have aid : Im H2 (.ref a) (.tuple ds) := hI.keep (keepT_of s2)
  refine ⟨_, rfl, D, _, rfl, .inl (SqL.of e2), rfl, _, rfl, ite2 (fun c => ?_) (fun c => ?_)⟩
  · refine ⟨_, rfl, .inl ⟨_, rfl, _, _, rfl, rfl, by show (0 : Int) < 3; decide, by show 2 ≤ sizeLine; decide, fun t ht => ⟨by show 1 ≤ sizeLine; decide, fun u hu => ?_⟩⟩⟩
    have s3 := upd2_same (o := .tup [.str "did", .int (cc % 3)]) (o' := .tup [.ref t]) ht hu
    refine ⟨_, rfl, ?_⟩
    refine cat_evs (ds := [evDid (cc % 3)]) (es := ds) upd_same (.cons (.tup (same_upd hu _ _ upd_same) (.cons (.str _) (.cons (.int _) .nil))) .nil) (s3 _ _ (s2 _ _ hT)) (hA.keep (keepT_of (s2.trans s3))) (by show 1 + _ ≤ _; omega) fun w H4 s4 i4 => ?_
    refine q w H4 _ (s2.trans (s3.trans s4)) i4 (fun d m => ?_) (by rw [List.length_append]; show 1 + _ ≤ _; omega)
    rcases List.mem_append.mp m with m | m
    · rw [List.mem_singleton.mp m]
      exact did_evp _
    · exact he d m
  · have n0 : 0 < js.length := by
      have : ¬ js.length = 0 := fun z => c (decide_eq_true (by rw [ljs, z]; rfl))
      omega
    have i0 : 0 ≤ cc % ((js.length : Nat) : Int) := Int.emod_nonneg _ (by omega)
    have i1 : cc % ((js.length : Nat) : Int) < ((js.length : Nat) : Int) := Int.emod_lt_of_pos _ (by omega)
    obtain ⟨m, em⟩ := Int.eq_ofNat_of_zero_le i0
    have hm : m < js.length := by omega
    have mj := List.getElem_mem (l := js) hm
    obtain ⟨hj, b, kk, gv, hb⟩ := m2 _ mj
    have atj := path_at (p := js) hm em
    have gj : js.getD m 0 = js[m] := by rw [List.getD_eq_getElem?_getD, List.getElem?_eq_getElem hm]; rfl
    rw [gj] at atj
    revert hj gv atj
    generalize js[m] = j
    intro hj gv atj
    refine ⟨_, rfl, _, rfl, .inl ⟨_, rfl, _, rfl, D, _, rfl, .inl (SqL.of e2), _, _, rfl, rfl, by rw [ljs]; omega, D, _, _, .int ((j : Nat) : Int), rfl, rfl, SqL.of e2, by rw [ljs]; exact atj, ?_⟩⟩
    refine ⟨_, rfl, _, rfl, _, rfl, a, xs, rfl, SqT.of (s2 _ _ hT), ?_, fun w1 f1 => ?_⟩
    · rw [HT.sIx_none, HT.sIx_nat]
      intro z
      have := z.2
      omega
    rw [cut_to]
    have s3 := same_upd (o := .tup (xs.take j)) f1
    have e3 := upd_same (H := H2) (a := w1) (o := .tup (xs.take j))
    refine ⟨_, rfl, _, rfl, a, xs, _, .ref b, rfl, rfl, SqT.of (s3 _ _ (s2 _ _ hT)), atI_nat gv, b, _, 1, .int kk, rfl, rfl, SqT.of (s3 _ _ (s2 _ _ hb)), atI_nat (j := 1) rfl, _, _, rfl, rfl, _, rfl, _, _, rfl, rfl, ⟨by decide, by decide⟩, _, _, rfl, rfl, by show (0 : Int) < 2; decide, _, _, rfl, rfl, by show 2 ≤ sizeLine; decide, fun t ht => ⟨by show 1 ≤ sizeLine; decide, fun u hu => ?_⟩⟩
    have s4 := upd2_same (o := .tup [.str "did", .int (kk + 1 + cc / 7 % 2)]) (o' := .tup [.ref t]) ht hu
    refine cat_evs (ds := ds.take j) (es := [evDid (kk + 1 + cc / 7 % 2)]) (s4 _ _ e3) ((hA.take j).keep (keepT_of (s2.trans (s3.trans s4)))) upd_same (.cons (.tup (same_upd hu _ _ upd_same) (.cons (.str _) (.cons (.int _) .nil))) .nil) (by rw [List.length_take]; show _ + 1 ≤ _; omega) fun w H5 s5 i5 => ?_
    have s25 := s3.trans (s4.trans s5)
    refine ⟨_, rfl, _, rfl, _, _, rfl, rfl, _, rfl, a, xs, rfl, SqT.of (s25 _ _ (s2 _ _ hT)), ?_, fun w2 f2 => ?_⟩
    · rw [show ((j : Nat) : Int) + 1 = ((j + 1 : Nat) : Int) from rfl, HT.sIx_nat]
      intro z
      have := z.1
      omega
    rw [show ((j : Nat) : Int) + 1 = ((j + 1 : Nat) : Int) from rfl, cut_from]
    have s6 := same_upd (o := .tup (xs.drop (j + 1))) f2
    cases i5 with
    | @tup _ ys _ hy hYA =>
    have ly := hYA.len
    rw [List.length_append, List.length_take] at ly
    have ly : ys.length = min j ds.length + 1 := ly
    refine cat_evs (es := ds.drop (j + 1)) (s6 _ _ hy) (hYA.keep (keepT_of s6)) upd_same ((ImAll.dropS (j + 1) hA).keep (keepT_of (s2.trans (s25.trans s6)))) (by rw [List.length_drop]; omega) fun w3 H7 s7 i7 => ?_
    refine q w3 H7 _ (s2.trans (s25.trans (s6.trans s7))) i7 (fun d m => ?_) (by rw [List.length_append, List.length_append, List.length_take, List.length_drop]; show _ + 1 + _ ≤ _; omega)
    rcases List.mem_append.mp m with m | m
    · rcases List.mem_append.mp m with m | m
      · exact he d (List.mem_of_mem_take m)
      · rw [List.mem_singleton.mp m]
        exact did_evp _
    · exact he d (List.mem_of_mem_drop m)
/-! ### _law_bool -/
def sp_law_bool (T : Txt K mg) : Sp := fun vs H Q _ => ∃ b : Bool, vs = [.bl b, .bl b] ∧ Q (.bl true) H

theorem ok_law_bool (T : Txt K mg) : FnOk P w K mg base CX0 1 T.a_law_bool T.d_law_bool ["actual", "due"] (sp_law_bool T) := by
  refine T.F_law_bool.ok sc_law_bool (fun vs H Q E h => ?_) (fun cdv A outer s H vs Q E hr h => ?_)
  · obtain ⟨b, rfl, _⟩ := h
    rfl
  obtain ⟨b, rfl, q⟩ := h
  refine ⟨_, (pss_one (ps_ret (pe_and (pe_callB call_isi (by rfl) T.z_isinstance (by first | exact PySem.boot_isinstance | decide +kernel) (pa_cons (pv 0) (pa_cons (pe_bltn (v := .ty "bool") (by rfl) T.z_bool (by decide +kernel) rfl) pa_nil))) (pe_one (pe_cmpR op_eq (pv 0) (pv 1) (nomark _)))))), ?_⟩
  refine ⟨_, rfl, .bl b, .ty "bool", .type "bool", .type "bool", true, rfl, .ty _, .base (.bl b), kit_ty (by decide +kernel), _, rfl, iteT ?_⟩
  refine ⟨_, rfl, _, rfl, by cases b <;> rfl, ?_⟩
  show Q (.bl (decide (V.bl b = V.bl b))) _
  rw [decide_eq_true rfl]
  exact q
/-! ### law -/
theorem chg_sz {ss : List Sg} {sn : List Nat → List PyData} (hok : ∀ s ∈ ss, SgOk s) : ∀ (n : Nat) (p : List Nat), p.length + n = ss.length → (chg ss sn n p).sz + 1 ≤ 2 * 4 ^ n
  | 0, _, _ => Nat.le_refl _
  | n + 1, p, hl => by
    have ok := nth_ok hok (show p.length < ss.length by omega)
    have ih : ∀ k, (chg ss sn n (p ++ [k])).sz + 1 ≤ 2 * 4 ^ n := fun k => chg_sz hok n (p ++ [k]) (by rw [List.length_append]; show p.length + 1 + n = _; omega)
    have all : ∀ ks : List Nat, szTs (ks.map fun k => chg ss sn n (p ++ [k])) + ks.length ≤ ks.length * (2 * 4 ^ n) := fun ks => by
      induction ks with
      | nil => simp [szTs]
      | cons k r ihr =>
        have := ih k
        show (chg ss sn n (p ++ [k])).sz + szTs (r.map fun k => chg ss sn n (p ++ [k])) + (r.length + 1) ≤ (r.length + 1) * (2 * 4 ^ n)
        rw [Nat.add_mul]
        omega
    have := all (List.range (nth ss p.length).2.1.toNat)
    rw [List.length_range] at this
    have n3 : (nth ss p.length).2.1.toNat ≤ 3 := by have := ok.2.1.2; omega
    have h2 : (nth ss p.length).2.1.toNat * (2 * 4 ^ n) ≤ 3 * (2 * 4 ^ n) := Nat.mul_le_mul_right _ n3
    have h1 : 1 ≤ (nth ss p.length).2.1.toNat := by have := ok.2.1.1; omega
    have p4 : 0 < 4 ^ n := Nat.pow_pos (by decide)
    have e4 : 2 * 4 ^ (n + 1) = 4 * (2 * 4 ^ n) := by rw [Nat.pow_succ]; omega
    rw [e4]
    unfold chg
    split
    · show 1 + szTs _ + 1 ≤ _
      omega
    · show 1 + szTs _ + 1 ≤ _
      omega
theorem okL_of : ∀ {ts : List Tr}, (∀ t ∈ ts, t.ok) → okL ts
  | [], _ => trivial
  | t :: r, h => ⟨h t List.mem_cons_self, okL_of fun x m => h x (List.mem_cons_of_mem _ m)⟩
theorem chg_ok {ss : List Sg} {sn : List Nat → List PyData} (h : ∀ p, p.length ≤ ss.length → (∀ d ∈ sn p, EvP d) ∧ (sn p).length ≤ 900) : ∀ (n : Nat) (p : List Nat), p.length + n = ss.length → (chg ss sn n p).ok
  | 0, _, _ => trivial
  | n + 1, p, hl => by
    have kids : okL ((List.range (nth ss p.length).2.1.toNat).map fun k => chg ss sn n (p ++ [k])) := okL_of fun t m => by
      obtain ⟨k, _, rfl⟩ := List.mem_map.mp m
      exact chg_ok h n (p ++ [k]) (by rw [List.length_append]; show p.length + 1 + n = _; omega)
    unfold chg
    split
    · exact kids
    · exact ⟨h p (by omega), kids⟩
theorem dp_paths {K : PySem.W.Frag} {H : Hp} {L : Addr} : ∀ {tv : List V} {qs : List (List Nat)}, Paired (PthN L H) tv qs → DpAll K H tv (qs.map fun q => plaD (some q))
  | _, _, .nil => .nil
  | _, _, .cons h t => by
    obtain ⟨a, e, _, ea⟩ := h
    exact .cons (pla_V (o := some _) ⟨a, e, ea⟩) (dp_paths t)
theorem sn_none (ss : List Sg) (ds : List PyData) : snP ss none ds = asked ss := by
  funext p
  unfold snP
  rw [if_neg (by intro z; cases z)]
def sp_law (T : Txt K mg) : Sp := spLaw K

theorem ok_law (T : Txt K mg) : FnOk P w K mg base CX0 9 T.a_law T.d_law ["script"] (sp_law T) := by
  refine T.F_law.ok sc_law (fun vs H Q E h => ?_) (fun cdv A outer s H vs Q E hr h => ?_)
  · obtain ⟨a, ns, rfl, _⟩ := h
    rfl
  obtain ⟨s0, ns0, rfl, hS, h63, q⟩ := h
  refine ⟨_, (pss_cons (ps_set (i := 1) sc_law.nd rfl (by first | exact Or.inl rfl | exact Or.inr rfl) (pe_call (ok_law_stages T) (hr.mono (by decide)) (by rfl) T.m_law_stages T.F_law_stages.kp T.b_law_stages .nil pass0 (pa_cons (pv 0) (pa_cons pe_int pa_nil))))
      (pss_cons (ps_set (i := 2) sc_law.nd rfl (by first | exact Or.inl rfl | exact Or.inr rfl) (pe_lst pa_nil))
      (pss_cons (ps_for PassesOwn.never rfl (pi_list (pe_call (ok_law_paths T) (hr.mono (by decide)) (by rfl) T.m_law_paths T.F_law_paths.kp T.b_law_paths .nil pass0 (pa_cons (pv 1) pa_nil))) (pg_name (i := 3) sc_law.nd rfl (by first | exact Or.inl rfl | exact Or.inr rfl)) (pss_one (ps_for PassesOwn.never rfl (pi_range1 (by rfl) T.z_range (pa_cons (pe_callB call_len_seq (by rfl) T.z_len (by first | exact PySem.boot_len | decide +kernel) (pa_cons (pv 1) pa_nil)) pa_nil)) (pg_name (i := 4) sc_law.nd rfl (by first | exact Or.inl rfl | exact Or.inr rfl)) (pss_one (ps_if (PW.pt (pw_and (pt_cmpR op_ne (pe_ix ix_tup (pe_ix ix_list (pv 1) (pv 4) (fun _ _ => rfl)) pe_int (fun _ _ => rfl)) pe_int (nomark _)) (pw_and1 (pt_cmpR (op_notInD (in_room hr)) (pe_slice sl_list (pv 3) po_none (po_some (pv 4))) (pv 2) (by with_unfolding_all rfl))))) (pss_one (ps_expr (pe_bm PySem.F.plainAttrs_list PySem.F.slot_list_append PySem.F.type_list_append mt_append (pv 2) (pa_cons (pe_slice sl_list (pv 3) po_none (po_some (pv 4))) pa_nil)))) pss_nil)))))
      (pss_cons (ps_if (pt_not (pt_truth (pe_call (ok_remembers T) (hr.mono (by decide)) (by rfl) T.m_remembers T.F_remembers.kp T.b_remembers .nil pass0 (pa_cons (pe_call (ok_law_changed T 6) (hr.mono (by decide)) (by rfl) T.m_law_changed T.F_law_changed.kp T.b_law_changed .nil pass0 (pa_cons (pv 1) (pa_cons (pe_lst pa_nil) (pa_cons pe_non (pa_cons (pe_tup pa_nil) pa_nil))))) pa_nil)) (fun _ => rfl))) (pss_one (ps_ret pe_bl)) pss_nil)
      (pss_cons (ps_if (pt_cmpR op_eq (pe_callB call_len_seq (by rfl) T.z_len (by first | exact PySem.boot_len | decide +kernel) (pa_cons (pv 2) pa_nil)) pe_int (nomark _)) (pss_one (ps_ret pe_bl)) pss_nil)
      (pss_cons (ps_set (i := 5) sc_law.nd rfl (by first | exact Or.inl rfl | exact Or.inr rfl) (pe_call (ok_law_cell T) (hr.mono (by decide)) (by rfl) T.m_law_cell T.F_law_cell.kp T.b_law_cell .nil pass0 (pa_cons (pv 0) (pa_cons pe_int pa_nil))))
      (pss_cons (ps_set (i := 6) sc_law.nd rfl (by first | exact Or.inl rfl | exact Or.inr rfl) (pe_ix ix_list (pv 2) (pe_op op_mod (pe_callTy call_int1 (by rfl) T.z_int (by first | exact PySem.boot_int | decide +kernel) (pa_cons (pe_call (ok_law_cell T) (hr.mono (by decide)) (by rfl) T.m_law_cell T.F_law_cell.kp T.b_law_cell .nil pass0 (pa_cons (pv 0) (pa_cons pe_int pa_nil))) pa_nil)) (pe_callB call_len_seq (by rfl) T.z_len (by first | exact PySem.boot_len | decide +kernel) (pa_cons (pv 2) pa_nil))) (fun _ _ => rfl)))
      (pss_cons (ps_set (i := 7) sc_law.nd rfl (by first | exact Or.inl rfl | exact Or.inr rfl) (pe_call (ok_law_spoilt T) (hr.mono (by decide)) (by rfl) T.m_law_spoilt T.F_law_spoilt.kp T.b_law_spoilt .nil pass0 (pa_cons (pe_call (ok_law_asked T) (hr.mono (by decide)) (by rfl) T.m_law_asked T.F_law_asked.kp T.b_law_asked .nil pass0 (pa_cons (pv 1) (pa_cons (pv 6) pa_nil))) (pa_cons (pe_op op_fdiv (pv 5) pe_int) pa_nil))))
      (C8.pss_cut (ps_if (pt_cmpR op_eq (pe_op op_mod (pe_callTy call_int1 (by rfl) T.z_int (by first | exact PySem.boot_int | decide +kernel) (pa_cons (pv 5) pa_nil)) pe_int) pe_int (nomark _)) (pss_cons (ps_set (i := 8) sc_law.nd rfl (by first | exact Or.inl rfl | exact Or.inr rfl) (pe_ix ix_list (pv 2) (pe_op op_mod (pe_op op_fdiv (pv 5) pe_int) (pe_callB call_len_seq (by rfl) T.z_len (by first | exact PySem.boot_len | decide +kernel) (pa_cons (pv 2) pa_nil))) (fun _ _ => rfl)))
      (pss_one (ps_if (pt_cmpR op_eq (pe_ix ix_tup (pe_ix ix_list (pv 1) (pe_callB call_len_seq (by rfl) T.z_len (by first | exact PySem.boot_len | decide +kernel) (pa_cons (pv 8) pa_nil)) (fun _ _ => rfl)) pe_int (fun _ _ => rfl)) (pe_ix ix_tup (pe_ix ix_list (pv 1) (pe_callB call_len_seq (by rfl) T.z_len (by first | exact PySem.boot_len | decide +kernel) (pa_cons (pv 6) pa_nil)) (fun _ _ => rfl)) pe_int (fun _ _ => rfl)) (nomark _)) (pss_one (ps_set (i := 7) sc_law.nd rfl (by first | exact Or.inl rfl | exact Or.inr rfl) (pe_call (ok_law_asked T) (hr.mono (by decide)) (by rfl) T.m_law_asked T.F_law_asked.kp T.b_law_asked .nil pass0 (pa_cons (pv 1) (pa_cons (pv 8) pa_nil))))) pss_nil))) pss_nil)
      (pss_one (ps_ret (pe_call (ok_law_bool T) (hr.mono (by decide)) (by rfl) T.m_law_bool T.F_law_bool.kp T.b_law_bool .nil pass0 (pa_cons (pe_call (ok_remembers T) (hr.mono (by decide)) (by rfl) T.m_remembers T.F_remembers.kp T.b_remembers .nil pass0 (pa_cons (pe_call (ok_law_changed T 6) (hr.mono (by decide)) (by rfl) T.m_law_changed T.F_law_changed.kp T.b_law_changed .nil pass0 (pa_cons (pv 1) (pa_cons (pe_lst pa_nil) (pa_cons (pv 6) (pa_cons (pv 7) pa_nil))))) pa_nil)) (pa_cons (pe_call (ok_law_keeps T) (hr.mono (by decide)) (by rfl) T.m_law_keeps T.F_law_keeps.kp T.b_law_keeps .nil pass0 (pa_cons (pv 1) (pa_cons (pv 6) (pa_cons (pv 7) pa_nil)))) pa_nil)))))))))))))), ?_⟩
  refine ⟨_, rfl, s0, ns0, 24, rfl, hS, by decide, by decide, fun S ss H1 s1 nS hss hok h4 => ?_⟩
  obtain ⟨vs, ha, pvs⟩ := id hss
  have lvs := paired_lenS pvs
  refine ⟨by show 0 ≤ sizeLine; decide, fun TL fT => ?_⟩
  have sT := same_upd (o := .lst []) fT
  refine ⟨_, rfl, S, ss, rfl, hss.same sT, hok, h4, fun P pv H2 s2 nP eP pp => ?_⟩
  have nPT : P ≠ TL := fun z => by rw [z, upd_same] at nP; cases nP
  have eT2 := s2 _ _ (upd_same (H := H1) (a := TL) (o := .lst []))
  have lpp := paired_lenS pp
  have l81 : pv.length ≤ 81 := by
    have := (paths_len ss.length hok (Nat.le_refl _)).1
    rw [List.take_length] at this
    rw [lpp]
    refine Nat.le_trans this ?_
    have : ss.length = 0 ∨ ss.length = 1 ∨ ss.length = 2 ∨ ss.length = 3 ∨ ss.length = 4 := by omega
    rcases this with e | e | e | e | e <;> rw [e] <;> decide
  have sH2 : ∀ {b : Addr} {o : HO}, H1 b = some o → b ≠ TL ∧ H2 b = some o := fun {b o} e => ⟨ne_of_none e fT, s2 _ _ (sT _ _ e)⟩
  refine ⟨P, rfl, ⟨_, SqL.of eP⟩, for_list (K := K) (a := P) (xs := pv) (fun i σ' H' => ∃ (y3 y4 : Option V) (tv : List V) (qs : List (List Nat)), σ' = [some (.ref s0), some (.ref S), some (.ref TL), y3, y4, none, none, none, none] ∧ But TL H2 H' ∧ H' TL = some (.lst tv) ∧ Paired (PthN TL H') tv qs ∧ (∀ w ∈ qs, w.length < ss.length) ∧ tv.length ≤ 4 * i) ⟨_, _, [], [], rfl, (fun _ _ _ z => z), eT2, .nil, (fun _ m => by cases m), Nat.le_refl _⟩ (fun i σ' H' _ h => ?_) ?_ ?_⟩
  · obtain ⟨_, _, _, _, _, b3, _⟩ := h
    exact SqL.of (b3 _ _ nPT eP)
  · rintro i x σ3 H3 hx ⟨y3, y4, tv, qs, rfl, b3, e3, p3, q3, l3⟩
    obtain ⟨w, hw, B, rfl, hB⟩ := pgetS pp hx
    have gq := (good_paths w).mp (List.mem_of_getElem? hw)
    have nBT : 0 < ss.length → B ≠ TL := fun h0 z => by
      rw [z, eT2] at hB
      have e1 := HO.lst.inj (Option.some.inj hB)
      have e2 := congrArg List.length e1
      unfold pthL at e2
      rw [List.length_map, gq.1, List.length_nil] at e2
      omega
    have ha3 := b3 _ _ (sH2 ha).1 (sH2 ha).2
    refine ⟨_, rfl, S, _, rfl, .inl (SqL.of ha3), ((vs.length : Nat) : Int), rfl, by omega, by omega, for_range (fun t σ' H' => ∃ (y4 : Option V) (tv : List V) (qs : List (List Nat)), σ' = [some (.ref s0), some (.ref S), some (.ref TL), some (.ref B), y4, none, none, none, none] ∧ But TL H2 H' ∧ H' TL = some (.lst tv) ∧ Paired (PthN TL H') tv qs ∧ (∀ w ∈ qs, w.length < ss.length) ∧ tv.length ≤ 4 * i + t) ⟨_, tv, qs, rfl, b3, e3, p3, q3, by omega⟩ ?_ ?_⟩
    · rintro t σ4 H4 ht ⟨y4, tv, qs, rfl, b4, e4, p4, q4, l4⟩
      have ht' : t < ss.length := by omega
      have hi81 : i < pv.length := (List.getElem?_eq_some_iff.mp hx).1
      have e0 : (0 : Int) + (t : Int) = ((t : Nat) : Int) := Int.zero_add _
      obtain ⟨U, sg, gv, hs, hU⟩ := ss_get pvs ht'
      have ha4 := b4 _ _ (sH2 ha).1 (sH2 ha).2
      have hU4 := b4 _ _ (sH2 hU).1 (sH2 hU).2
      have hB4 := b4 _ _ (nBT (by omega)) hB
      have ltv := paired_lenS p4
      have wt : (w.take t).length = t := by rw [List.length_take, gq.1]; omega
      have ecut : cutV (pthL w) none (some (0 + (t : Int))) = pthL (w.take t) := by
        rw [e0, cut_to]
        unfold pthL
        rw [List.map_take]
      refine ⟨_, rfl, _, rfl, S, vs, _, .ref U, rfl, rfl, SqL.of ha4, at_of e0 gv, U, _, 0, .int sg.1, rfl, rfl, SqT.of hU4, atI_nat (j := 0) rfl, rfl, _, rfl, ite2 (fun c => ?_) (fun c => ⟨_, tv, qs, rfl, b4, e4, p4, q4, by omega⟩)⟩
      refine ⟨_, rfl, _, rfl, _, rfl, B, pthL w, rfl, SqL.of hB4, fun W fW => ?_⟩
      rw [ecut]
      have sW := same_upd (o := .lst (pthL (w.take t))) fW
      have p5 := L2.Paired.mapP p4 fun _ _ y => y.but (H' := upd H4 W (.lst (pthL (w.take t)))) fun b o _ e => sW _ _ e
      have b5 : But TL H2 (upd H4 W (.lst (pthL (w.take t)))) := fun b o n e => sW _ _ (b4 _ _ n e)
      have shq : SeqAt.shaped (.list (qs.map fun q => plaD (some q))) = true := (lay_list (n := 1) (by rw [List.length_map]; omega) fun d m => by
        obtain ⟨u, mu, rfl⟩ := List.mem_map.mp m
        have := q4 u mu
        exact lay_list (n := 0) (by rw [List.length_map]; omega) fun d m => by
          obtain ⟨k, _, rfl⟩ := List.mem_map.mp m
          exact lay_int _).shaped (by omega)
      refine ⟨_, rfl, _, _, pla_V (o := some (w.take t)) ⟨W, rfl, upd_same⟩, .lst (SqL.of (sW _ _ e4)) (dp_paths p5), pla_sh (fun z e => by cases e; omega), shq, _, rfl, ite2 (fun d => ?_) (fun d => ⟨_, tv, qs, rfl, b5, sW _ _ e4, p5, q4, by omega⟩)⟩
      refine ⟨_, rfl, .inl ⟨rfl, _, SqL.of (sW _ _ e4)⟩, _, rfl, _, rfl, _, rfl, B, pthL w, rfl, SqL.of (sW _ _ hB4), fun W2 fW2 => ?_⟩
      rw [ecut]
      have sW2 := same_upd (o := .lst (pthL (w.take t))) fW2
      have e6 := sW2 _ _ (sW _ _ e4)
      have nW2 : W2 ≠ TL := (ne_of_none (sW _ _ e4) fW2).symm
      have b6 : ∀ b o, b ≠ TL → (upd H4 W (.lst (pthL (w.take t)))) b = some o → upd (upd (upd H4 W (.lst (pthL (w.take t)))) W2 (.lst (pthL (w.take t)))) TL (.lst (tv ++ [V.ref W2])) b = some o := fun b o n e => by
        rw [upd_ne n]
        exact sW2 _ _ e
      refine ⟨TL, tv, _, rfl, rfl, e6, Nat.lt_of_le_of_lt (show tv.length ≤ 999 by omega) (small1000 (by omega)), _, tv ++ [.ref W2], qs ++ [w.take t], rfl, fun b o n e => b6 _ _ n (b5 _ _ n e), upd_same, paired_snocS (L2.Paired.mapP p5 fun _ _ y => y.but b6) ⟨W2, rfl, nW2, by rw [upd_ne nW2]; exact upd_same⟩, fun u mu => ?_, by rw [List.length_append]; show _ + 1 ≤ _; omega⟩
      rcases List.mem_append.mp mu with mu | mu
      · exact q4 u mu
      · rw [List.mem_singleton.mp mu, wt]
        exact ht'
    · rintro σ4 H4 ⟨y4, tv, qs, rfl, b4, e4, p4, q4, l4⟩
      exact ⟨_, _, tv, qs, rfl, b4, e4, p4, q4, by omega⟩
  · rintro σ3 H3 ⟨y3, y4, tv, qs, rfl, b3, e3, p3, q3, l3⟩
    have ltv := paired_lenS p3
    have ha3 := b3 _ _ (sH2 ha).1 (sH2 ha).2
    have hss3 : StgsV H3 S ss := ⟨vs, ha3, L2.Paired.mapP pvs fun _ _ y => by
      obtain ⟨u, e, t⟩ := y
      exact ⟨u, e, b3 _ _ (sH2 t).1 (sH2 t).2⟩⟩
    have hS2 : SqL K H2 s0 (ns0.map V.int) := (s1.trans (sT.trans s2)).seq hS
    have hS3 : SqL K H3 s0 (ns0.map V.int) := by
      have hS1 : SqL K H1 s0 (ns0.map V.int) := s1.seq hS
      rcases hS1 with (h | ⟨o, h⟩) | h
      · exact .inl (.inl (b3 _ _ (sH2 h).1 (sH2 h).2))
      · exact .inl (.inr ⟨o, b3 _ _ (sH2 h).1 (sH2 h).2⟩)
      · exact .inr h
    refine ⟨_, rfl, by show 0 ≤ sizeLine; decide, fun B0 f0 => ⟨by show 0 ≤ sizeLine; decide, fun U0 fU0 => ?_⟩⟩
    have sB := same_upd (o := .lst []) f0
    have sU := same_upd (o := .tup []) fU0
    have s34 := sB.trans sU
    have szok : ∀ sn : List Nat → List PyData, (chg ss sn ss.length []).sz ≤ 900 := fun sn => by
      have := chg_sz (sn := sn) hok ss.length [] (Nat.zero_add _)
      have : 4 ^ ss.length ≤ 256 := by
        have : ss.length = 0 ∨ ss.length = 1 ∨ ss.length = 2 ∨ ss.length = 3 ∨ ss.length = 4 := by omega
        rcases this with e | e | e | e | e <;> rw [e] <;> decide
      omega
    refine ⟨S, B0, .non, .ref U0, ss, [], none, [], rfl, hss3.same s34, hok, h4, sU _ _ upd_same, Nat.zero_le _, by show ss.length - 0 < 6; omega, by decide, rfl, (fun _ z => by cases z), .tup upd_same .nil, fun v H5 s5 t5 => ?_⟩
    rw [sn_none] at t5
    refine ⟨v, _, rfl, t5, chg_ok (fun p hp => ⟨asked_evp ss p, by have := asked_len ss p; omega⟩) ss.length [] (Nat.zero_add _), szok _, fun b H6 s6 hb => ?_⟩
    obtain rfl : b = true := hb.mpr (own_rem hok)
    refine ⟨_, rfl, iteF ?_⟩
    have s36 := s34.trans (s5.trans s6)
    have e6 := s36 _ _ e3
    have hS6 := s36.seq hS3
    have hss6 := hss3.same s36
    have p6 : Paired (PthV H6) tv qs := L2.Paired.mapP p3 fun _ _ y => y.toV.same s36
    refine ⟨_, rfl, TL, _, rfl, .inl (SqL.of e6), rfl, _, rfl, ite2 (fun _ => q _) (fun c => ?_)⟩
    have n0 : 0 < tv.length := by
      have : ¬ tv.length = 0 := fun z => c (decide_eq_true (by rw [z]; rfl))
      omega
    clear t5 s5 s6 hb s34 sU sB e3 p3 b3 hss3 ha3
    have pick : ∀ z : Int, ∃ (pa : Addr) (w : List Nat), atI tv (z % ((tv.length : Nat) : Int)) = some (.ref pa) ∧ H6 pa = some (.lst (pthL w)) ∧ w.length < ss.length := fun z => by
      have i0 : 0 ≤ z % ((tv.length : Nat) : Int) := Int.emod_nonneg _ (by omega)
      have i1 : z % ((tv.length : Nat) : Int) < ((tv.length : Nat) : Int) := Int.emod_lt_of_pos _ (by omega)
      obtain ⟨m, em⟩ := Int.eq_ofNat_of_zero_le i0
      have hm : m < tv.length := by omega
      have g := List.getElem?_eq_getElem hm
      obtain ⟨w, hw, pa, e, hpa⟩ := pgetS p6 g
      rw [e] at g
      exact ⟨pa, w, at_ofG em g, hpa, q3 w (List.mem_of_getElem? hw)⟩
    have nl : (0 : Int) < ((tv.length : Nat) : Int) := by omega
    obtain ⟨pa, w, atp, hpa, wl⟩ := pick (cell ns0 1)
    refine ⟨_, rfl, s0, ns0, 2, rfl, hS6, by decide, ?_⟩
    refine ⟨_, rfl, _, rfl, s0, ns0, 1, rfl, hS6, by decide, .inl ⟨_, rfl, _, rfl, TL, _, rfl, .inl (SqL.of e6), _, _, rfl, rfl, nl, TL, _, _, .ref pa, rfl, rfl, SqL.of e6, atp, ?_⟩⟩
    refine ⟨_, rfl, _, rfl, S, pa, ss, w, rfl, hss6, hpa, wl, h4, fun va H7 s7 i7 => ?_⟩
    refine ⟨_, rfl, _, _, rfl, rfl, ⟨by decide, by decide⟩, va, _, asked ss w, rfl, i7, asked_evp ss w, by have := asked_len ss w; omega, fun vv H8 es s8 i8 he8 hl8 => ?_⟩
    refine ⟨fun σ' H' => ∃ (vv : Addr) (es : List PyData) (y8 : Option V), σ' = [some (.ref s0), some (.ref S), some (.ref TL), y3, y4, some (.int (cell ns0 2)), some (.ref pa), some (.ref vv), y8] ∧ Same H6 H' ∧ Im H' (.ref vv) (.tuple es) ∧ (∀ d ∈ es, EvP d) ∧ es.length ≤ 100, ?_, ?_⟩
    · have s68 := s7.trans s8
      obtain ⟨pb, w2, atb, hpb, wl2⟩ := pick (cell ns0 2 / 2)
      obtain ⟨vs8, ha8, pvs8⟩ := id (hss6.same s68)
      obtain ⟨U1, g1, gv1, hs1, hU1⟩ := ss_get pvs8 wl2
      obtain ⟨U2, g2, gv2, hs2, hU2⟩ := ss_get pvs8 wl
      have lp1 : (pthL w2).length = w2.length := List.length_map _
      have lp2 : (pthL w).length = w.length := List.length_map _
      refine ⟨_, rfl, .inl ⟨_, rfl, _, _, rfl, rfl, by show (0 : Int) < 2; decide, rfl, _, rfl, ite2 (fun _ => ?_) (fun _ => ⟨vv, es, _, rfl, s68, i8, he8, hl8⟩)⟩⟩
      refine ⟨_, rfl, _, rfl, _, _, rfl, rfl, ⟨by decide, by decide⟩, _, rfl, TL, _, rfl, .inl (SqL.of (s68 _ _ e6)), _, _, rfl, rfl, nl, TL, _, _, .ref pb, rfl, rfl, SqL.of (s68 _ _ e6), atb, ?_⟩
      refine ⟨_, rfl, _, rfl, pb, _, rfl, .inl (SqL.of (s68 _ _ hpb)), S, vs8, _, .ref U1, rfl, rfl, SqL.of ha8, at_ofG (j := w2.length) (by rw [lp1]) gv1, U1, _, 0, .int g1.1, rfl, rfl, SqT.of hU1, atI_nat (j := 0) rfl, ?_⟩
      refine ⟨_, rfl, _, rfl, pa, _, rfl, .inl (SqL.of (s68 _ _ hpa)), S, vs8, _, .ref U2, rfl, rfl, SqL.of ha8, at_ofG (j := w.length) (by rw [lp2]) gv2, U2, _, 0, .int g2.1, rfl, rfl, SqT.of hU2, atI_nat (j := 0) rfl, rfl, _, rfl, ite2 (fun _ => ?_) (fun _ => ⟨vv, es, _, rfl, s68, i8, he8, hl8⟩)⟩
      exact ⟨_, rfl, _, rfl, S, pb, ss, w2, rfl, hss6.same s68, s68 _ _ hpb, wl2, h4, fun va2 H9 s9 i9 => ⟨va2, asked ss w2, _, rfl, s68.trans s9, i9, asked_evp ss w2, by have := asked_len ss w2; omega⟩⟩
    clear i8 he8 hl8 s8 i7 s7
    rintro σ8 H9 ⟨vv, es, y8, rfl, s9, i9, he9, hl9⟩
    refine ⟨_, rfl, by show 0 ≤ sizeLine; decide, fun B1 f1 => ?_⟩
    have sB1 := same_upd (o := .lst []) f1
    have s91 := s9.trans sB1
    have wl10 : ∀ u, some w = some u → u.length ≤ 10 := fun u z => by cases z; omega
    refine ⟨_, rfl, _, rfl, S, B1, .ref pa, .ref vv, ss, [], some w, es, rfl, hss6.same s91, hok, h4, upd_same, Nat.zero_le _, by show ss.length - 0 < 6; omega, by decide, ⟨pa, rfl, s91 _ _ hpa⟩, wl10, i9.keep (keepT_of sB1), fun v2 HA sA tA => ?_⟩
    refine ⟨v2, _, rfl, tA, chg_ok (fun p hp => ?_) ss.length [] (Nat.zero_add _), szok _, fun b HB sB2 hb => ?_⟩
    · have := sn_ok (ss := ss) (o := some w) h4 he9 hl9 (p := p) (by omega)
      exact ⟨this.1, by omega⟩
    have sAB := sB1.trans (sA.trans sB2)
    refine ⟨_, rfl, _, rfl, _, rfl, S, .ref pa, .ref vv, ss, some w, es, rfl, hss6.same (s9.trans sAB), hok, h4, ⟨pa, rfl, (s9.trans sAB) _ _ hpa⟩, wl10, i9.keep (keepT_of sAB), he9, hl9, fun b2 HC sC hb2 => ?_⟩
    have ebb : b2 = b := by
      have : b2 = true ↔ b = true := hb2.trans ((rem_keeps hok).symm.trans hb.symm)
      exact Bool.eq_iff_iff.mpr this
    subst ebb
    exact ⟨b2, rfl, q _⟩
end
/-! ### what the top has written -/
theorem all_mk {l : PySem.W.OpenLaw} {w : World} {K : PySem.W.Frag} {h : Heap} {mg : Str → Option Value} {fa : Addr} (X : K.In h) (G : h.Ns mainGlobals mg) (hfa : mg "law" = some (.ref fa))
    {C_End : Addr}
    {C_Lot : Addr}
    {C_Turn : Addr}
    {f1 : Addr} {od1 an1 : Option Addr} {sl1 : Array (Option Value)} {oc1 kV1 dc1 pm1 cd1 ct1 : Value}
    {f2 : Addr} {od2 an2 : Option Addr} {sl2 : Array (Option Value)} {oc2 kV2 dc2 pm2 cd2 ct2 : Value}
    {f3 : Addr} {od3 an3 : Option Addr} {sl3 : Array (Option Value)} {oc3 kV3 dc3 pm3 cd3 ct3 : Value}
    {f4 : Addr} {od4 an4 : Option Addr} {sl4 : Array (Option Value)} {oc4 kV4 dc4 pm4 cd4 ct4 : Value}
    {f5 : Addr} {od5 an5 : Option Addr} {sl5 : Array (Option Value)} {oc5 kV5 dc5 pm5 cd5 ct5 : Value}
    {f6 : Addr} {od6 an6 : Option Addr} {sl6 : Array (Option Value)} {oc6 kV6 dc6 pm6 cd6 ct6 : Value}
    {f7 : Addr} {od7 an7 : Option Addr} {sl7 : Array (Option Value)} {oc7 kV7 dc7 pm7 cd7 ct7 : Value}
    {f8 : Addr} {od8 an8 : Option Addr} {sl8 : Array (Option Value)} {oc8 kV8 dc8 pm8 cd8 ct8 : Value}
    {f9 : Addr} {od9 an9 : Option Addr} {sl9 : Array (Option Value)} {oc9 kV9 dc9 pm9 cd9 ct9 : Value}
    {f10 : Addr} {od10 an10 : Option Addr} {sl10 : Array (Option Value)} {oc10 kV10 dc10 pm10 cd10 ct10 : Value}
    {f11 : Addr} {od11 an11 : Option Addr} {sl11 : Array (Option Value)} {oc11 kV11 dc11 pm11 cd11 ct11 : Value}
    {f12 : Addr} {od12 an12 : Option Addr} {sl12 : Array (Option Value)} {oc12 kV12 dc12 pm12 cd12 ct12 : Value}
    {f13 : Addr} {od13 an13 : Option Addr} {sl13 : Array (Option Value)} {oc13 kV13 dc13 pm13 cd13 ct13 : Value}
    {f14 : Addr} {od14 an14 : Option Addr} {sl14 : Array (Option Value)} {oc14 kV14 dc14 pm14 cd14 ct14 : Value}
    {f15 : Addr} {od15 an15 : Option Addr} {sl15 : Array (Option Value)} {oc15 kV15 dc15 pm15 cd15 ct15 : Value}
    {f16 : Addr} {od16 an16 : Option Addr} {sl16 : Array (Option Value)} {oc16 kV16 dc16 pm16 cd16 ct16 : Value}
    {f17 : Addr} {od17 an17 : Option Addr} {sl17 : Array (Option Value)} {oc17 kV17 dc17 pm17 cd17 ct17 : Value}
    {f18 : Addr} {od18 an18 : Option Addr} {sl18 : Array (Option Value)} {oc18 kV18 dc18 pm18 cd18 ct18 : Value}
    (ac_End : PySem.W.nsIn K mainGlobals "End" = some (some (.ref C_End)))
    (pg_End : PySem.W.plainGet K C_End Str.empty = true)
    (hd_End : PySem.W.hasDictIn K C_End = true)
    (po_End : PySem.W.plainOver K C_End = true)
    (sa_End : PySem.W.findIn K (.ref C_End) "__setattr__" = some (some (.builtin "object.__setattr__")))
    (mkc_End : PySem.W.makesIn K C_End = true)
    (kpc_End : PySem.W.keepIn K (.ref C_End) = true)
    (na_End_paid : PySem.W.findIn K (.ref C_End) "paid" = some none)
    (xa_End : PySem.W.findIn K (.ref C_End) "__class__" = some (some (.builtin "object.__class__")))
    (xn_End : PySem.W.specialIn K (.builtin "object.__class__") "__get__" = some (some (.builtin "getset_descriptor.__get__")))
    (xt_End : PySem.W.takesIn K (.builtin "object.__class__") = some true)
    (xm_End : PySem.W.mroIn K C_End (.type "object") = some true)
    (kic_End : PySem.W.isClsIn K C_End = true)
    (kty_End : PySem.W.typeIn K (.ref C_End) = some (.type "type"))
    (ess_k_End : PySem.W.subIn K (.ref C_End) (.ref C_End) = some true)
    (exk_End_Lot : PySem.W.subIn K (.ref C_End) (.ref C_Lot) = some false)
    (exk_End_Turn : PySem.W.subIn K (.ref C_End) (.ref C_Turn) = some false)
    (ac_Lot : PySem.W.nsIn K mainGlobals "Lot" = some (some (.ref C_Lot)))
    (pg_Lot : PySem.W.plainGet K C_Lot Str.empty = true)
    (hd_Lot : PySem.W.hasDictIn K C_Lot = true)
    (po_Lot : PySem.W.plainOver K C_Lot = true)
    (sa_Lot : PySem.W.findIn K (.ref C_Lot) "__setattr__" = some (some (.builtin "object.__setattr__")))
    (mkc_Lot : PySem.W.makesIn K C_Lot = true)
    (kpc_Lot : PySem.W.keepIn K (.ref C_Lot) = true)
    (na_Lot_parts : PySem.W.findIn K (.ref C_Lot) "parts" = some none)
    (xa_Lot : PySem.W.findIn K (.ref C_Lot) "__class__" = some (some (.builtin "object.__class__")))
    (xn_Lot : PySem.W.specialIn K (.builtin "object.__class__") "__get__" = some (some (.builtin "getset_descriptor.__get__")))
    (xt_Lot : PySem.W.takesIn K (.builtin "object.__class__") = some true)
    (xm_Lot : PySem.W.mroIn K C_Lot (.type "object") = some true)
    (kic_Lot : PySem.W.isClsIn K C_Lot = true)
    (kty_Lot : PySem.W.typeIn K (.ref C_Lot) = some (.type "type"))
    (ess_k_Lot : PySem.W.subIn K (.ref C_Lot) (.ref C_Lot) = some true)
    (exk_Lot_End : PySem.W.subIn K (.ref C_Lot) (.ref C_End) = some false)
    (exk_Lot_Turn : PySem.W.subIn K (.ref C_Lot) (.ref C_Turn) = some false)
    (ac_Turn : PySem.W.nsIn K mainGlobals "Turn" = some (some (.ref C_Turn)))
    (pg_Turn : PySem.W.plainGet K C_Turn Str.empty = true)
    (hd_Turn : PySem.W.hasDictIn K C_Turn = true)
    (po_Turn : PySem.W.plainOver K C_Turn = true)
    (sa_Turn : PySem.W.findIn K (.ref C_Turn) "__setattr__" = some (some (.builtin "object.__setattr__")))
    (mkc_Turn : PySem.W.makesIn K C_Turn = true)
    (kpc_Turn : PySem.W.keepIn K (.ref C_Turn) = true)
    (na_Turn_player : PySem.W.findIn K (.ref C_Turn) "player" = some none)
    (na_Turn_view : PySem.W.findIn K (.ref C_Turn) "view" = some none)
    (na_Turn_parts : PySem.W.findIn K (.ref C_Turn) "parts" = some none)
    (xa_Turn : PySem.W.findIn K (.ref C_Turn) "__class__" = some (some (.builtin "object.__class__")))
    (xn_Turn : PySem.W.specialIn K (.builtin "object.__class__") "__get__" = some (some (.builtin "getset_descriptor.__get__")))
    (xt_Turn : PySem.W.takesIn K (.builtin "object.__class__") = some true)
    (xm_Turn : PySem.W.mroIn K C_Turn (.type "object") = some true)
    (kic_Turn : PySem.W.isClsIn K C_Turn = true)
    (kty_Turn : PySem.W.typeIn K (.ref C_Turn) = some (.type "type"))
    (ess_k_Turn : PySem.W.subIn K (.ref C_Turn) (.ref C_Turn) = some true)
    (exk_Turn_End : PySem.W.subIn K (.ref C_Turn) (.ref C_End) = some false)
    (exk_Turn_Lot : PySem.W.subIn K (.ref C_Turn) (.ref C_Lot) = some false)
    (a1 : PySem.W.findIn K (.ref C_End) "__init__" = some (some (.ref f1)))
    (i1 : PySem.W.isFn K (.ref f1) = true)
    (l1 : K.lookup f1 = some ⟨oc1, od1, .func (PySem.W.fnOf "__init__" "End.__init__" (defArgs s_End_init) (defBody s_End_init) (defScope s_End_init) .none kV1 dc1 pm1 an1 cd1 ct1), sl1⟩)
    (c1 : PySem.W.codeIn K cd1 "End.__init__" = true)
    (k1 : PySem.W.keepIn K (.ref f1) = true)
    (a2 : PySem.W.findIn K (.ref C_Lot) "__init__" = some (some (.ref f2)))
    (i2 : PySem.W.isFn K (.ref f2) = true)
    (l2 : K.lookup f2 = some ⟨oc2, od2, .func (PySem.W.fnOf "__init__" "Lot.__init__" (defArgs s_Lot_init) (defBody s_Lot_init) (defScope s_Lot_init) .none kV2 dc2 pm2 an2 cd2 ct2), sl2⟩)
    (c2 : PySem.W.codeIn K cd2 "Lot.__init__" = true)
    (k2 : PySem.W.keepIn K (.ref f2) = true)
    (a3 : PySem.W.findIn K (.ref C_Turn) "__init__" = some (some (.ref f3)))
    (i3 : PySem.W.isFn K (.ref f3) = true)
    (l3 : K.lookup f3 = some ⟨oc3, od3, .func (PySem.W.fnOf "__init__" "Turn.__init__" (defArgs s_Turn_init) (defBody s_Turn_init) (defScope s_Turn_init) .none kV3 dc3 pm3 an3 cd3 ct3), sl3⟩)
    (c3 : PySem.W.codeIn K cd3 "Turn.__init__" = true)
    (k3 : PySem.W.keepIn K (.ref f3) = true)
    (a4 : PySem.W.nsIn K mainGlobals "parts_of" = some (some (.ref f4)))
    (l4 : K.lookup f4 = some ⟨oc4, od4, .func (PySem.W.fnOf "parts_of" "parts_of" (defArgs s_parts_of) (defBody s_parts_of) (defScope s_parts_of) .none kV4 dc4 pm4 an4 cd4 ct4), sl4⟩)
    (c4 : PySem.W.codeIn K cd4 "parts_of" = true)
    (k4 : PySem.W.keepIn K (.ref f4) = true)
    (a5 : PySem.W.nsIn K mainGlobals "last_row" = some (some (.ref f5)))
    (l5 : K.lookup f5 = some ⟨oc5, od5, .func (PySem.W.fnOf "last_row" "last_row" (defArgs s_last_row) (defBody s_last_row) (defScope s_last_row) .none kV5 dc5 pm5 an5 cd5 ct5), sl5⟩)
    (c5 : PySem.W.codeIn K cd5 "last_row" = true)
    (k5 : PySem.W.keepIn K (.ref f5) = true)
    (a6 : PySem.W.nsIn K mainGlobals "remembers" = some (some (.ref f6)))
    (l6 : K.lookup f6 = some ⟨oc6, od6, .func (PySem.W.fnOf "remembers" "remembers" (defArgs s_remembers) (defBody s_remembers) (defScope s_remembers) .none kV6 dc6 pm6 an6 cd6 ct6), sl6⟩)
    (c6 : PySem.W.codeIn K cd6 "remembers" = true)
    (k6 : PySem.W.keepIn K (.ref f6) = true)
    (a7 : PySem.W.nsIn K mainGlobals "_law_cell" = some (some (.ref f7)))
    (l7 : K.lookup f7 = some ⟨oc7, od7, .func (PySem.W.fnOf "_law_cell" "_law_cell" (defArgs s_law_cell) (defBody s_law_cell) (defScope s_law_cell) .none kV7 dc7 pm7 an7 cd7 ct7), sl7⟩)
    (c7 : PySem.W.codeIn K cd7 "_law_cell" = true)
    (k7 : PySem.W.keepIn K (.ref f7) = true)
    (a8 : PySem.W.nsIn K mainGlobals "_law_row" = some (some (.ref f8)))
    (l8 : K.lookup f8 = some ⟨oc8, od8, .func (PySem.W.fnOf "_law_row" "_law_row" (defArgs s_law_row) (defBody s_law_row) (defScope s_law_row) .none kV8 dc8 pm8 an8 cd8 ct8), sl8⟩)
    (c8 : PySem.W.codeIn K cd8 "_law_row" = true)
    (k8 : PySem.W.keepIn K (.ref f8) = true)
    (a9 : PySem.W.nsIn K mainGlobals "_law_stages" = some (some (.ref f9)))
    (l9 : K.lookup f9 = some ⟨oc9, od9, .func (PySem.W.fnOf "_law_stages" "_law_stages" (defArgs s_law_stages) (defBody s_law_stages) (defScope s_law_stages) .none kV9 dc9 pm9 an9 cd9 ct9), sl9⟩)
    (c9 : PySem.W.codeIn K cd9 "_law_stages" = true)
    (k9 : PySem.W.keepIn K (.ref f9) = true)
    (a10 : PySem.W.nsIn K mainGlobals "_law_paths" = some (some (.ref f10)))
    (l10 : K.lookup f10 = some ⟨oc10, od10, .func (PySem.W.fnOf "_law_paths" "_law_paths" (defArgs s_law_paths) (defBody s_law_paths) (defScope s_law_paths) .none kV10 dc10 pm10 an10 cd10 ct10), sl10⟩)
    (c10 : PySem.W.codeIn K cd10 "_law_paths" = true)
    (k10 : PySem.W.keepIn K (.ref f10) = true)
    (a11 : PySem.W.nsIn K mainGlobals "_law_view" = some (some (.ref f11)))
    (l11 : K.lookup f11 = some ⟨oc11, od11, .func (PySem.W.fnOf "_law_view" "_law_view" (defArgs s_law_view) (defBody s_law_view) (defScope s_law_view) .none kV11 dc11 pm11 an11 cd11 ct11), sl11⟩)
    (c11 : PySem.W.codeIn K cd11 "_law_view" = true)
    (k11 : PySem.W.keepIn K (.ref f11) = true)
    (a12 : PySem.W.nsIn K mainGlobals "_law_asked" = some (some (.ref f12)))
    (l12 : K.lookup f12 = some ⟨oc12, od12, .func (PySem.W.fnOf "_law_asked" "_law_asked" (defArgs s_law_asked) (defBody s_law_asked) (defScope s_law_asked) .none kV12 dc12 pm12 an12 cd12 ct12), sl12⟩)
    (c12 : PySem.W.codeIn K cd12 "_law_asked" = true)
    (k12 : PySem.W.keepIn K (.ref f12) = true)
    (a13 : PySem.W.nsIn K mainGlobals "_law_changed" = some (some (.ref f13)))
    (l13 : K.lookup f13 = some ⟨oc13, od13, .func (PySem.W.fnOf "_law_changed" "_law_changed" (defArgs s_law_changed) (defBody s_law_changed) (defScope s_law_changed) .none kV13 dc13 pm13 an13 cd13 ct13), sl13⟩)
    (c13 : PySem.W.codeIn K cd13 "_law_changed" = true)
    (k13 : PySem.W.keepIn K (.ref f13) = true)
    (a14 : PySem.W.nsIn K mainGlobals "_law_last" = some (some (.ref f14)))
    (l14 : K.lookup f14 = some ⟨oc14, od14, .func (PySem.W.fnOf "_law_last" "_law_last" (defArgs s_law_last) (defBody s_law_last) (defScope s_law_last) .none kV14 dc14 pm14 an14 cd14 ct14), sl14⟩)
    (c14 : PySem.W.codeIn K cd14 "_law_last" = true)
    (k14 : PySem.W.keepIn K (.ref f14) = true)
    (a15 : PySem.W.nsIn K mainGlobals "_law_keeps" = some (some (.ref f15)))
    (l15 : K.lookup f15 = some ⟨oc15, od15, .func (PySem.W.fnOf "_law_keeps" "_law_keeps" (defArgs s_law_keeps) (defBody s_law_keeps) (defScope s_law_keeps) .none kV15 dc15 pm15 an15 cd15 ct15), sl15⟩)
    (c15 : PySem.W.codeIn K cd15 "_law_keeps" = true)
    (k15 : PySem.W.keepIn K (.ref f15) = true)
    (a16 : PySem.W.nsIn K mainGlobals "_law_spoilt" = some (some (.ref f16)))
    (l16 : K.lookup f16 = some ⟨oc16, od16, .func (PySem.W.fnOf "_law_spoilt" "_law_spoilt" (defArgs s_law_spoilt) (defBody s_law_spoilt) (defScope s_law_spoilt) .none kV16 dc16 pm16 an16 cd16 ct16), sl16⟩)
    (c16 : PySem.W.codeIn K cd16 "_law_spoilt" = true)
    (k16 : PySem.W.keepIn K (.ref f16) = true)
    (a17 : PySem.W.nsIn K mainGlobals "_law_bool" = some (some (.ref f17)))
    (l17 : K.lookup f17 = some ⟨oc17, od17, .func (PySem.W.fnOf "_law_bool" "_law_bool" (defArgs s_law_bool) (defBody s_law_bool) (defScope s_law_bool) .none kV17 dc17 pm17 an17 cd17 ct17), sl17⟩)
    (c17 : PySem.W.codeIn K cd17 "_law_bool" = true)
    (k17 : PySem.W.keepIn K (.ref f17) = true)
    (a18 : PySem.W.nsIn K mainGlobals "law" = some (some (.ref f18)))
    (l18 : K.lookup f18 = some ⟨oc18, od18, .func (PySem.W.fnOf "law" "law" (defArgs s_law) (defBody s_law) (defScope s_law) .none kV18 dc18 pm18 an18 cd18 ct18), sl18⟩)
    (c18 : PySem.W.codeIn K cd18 "law" = true)
    (k18 : PySem.W.keepIn K (.ref f18) = true)
    (z_bool : PySem.W.nsIn K mainGlobals "bool" = some none)
    (z_enumerate : PySem.W.nsIn K mainGlobals "enumerate" = some none)
    (z_int : PySem.W.nsIn K mainGlobals "int" = some none)
    (z_isinstance : PySem.W.nsIn K mainGlobals "isinstance" = some none)
    (z_len : PySem.W.nsIn K mainGlobals "len" = some none)
    (z_range : PySem.W.nsIn K mainGlobals "range" = some none)
    (z_sum : PySem.W.nsIn K mainGlobals "sum" = some none)
    (z_tuple : PySem.W.nsIn K mainGlobals "tuple" = some none) :
    ∃ fd : FuncData, (∀ (s : Shared) (v : Value), BindsTo s fd ⟨[v], []⟩ [("script", v)]) ∧ ∀ base : Heap, K.In base → base.Ns mainGlobals mg → FnOk l.prog w K mg base CX0 9 fa fd ["script"] (spLaw K) := by
  have e := hfa.symm.trans (PySem.W.mg_of X G a18)
  cases e
  let T : Txt K mg := { C_End := C_End, m_End := PySem.W.mg_of X G ac_End, cl_End := ⟨pg_End, hd_End, po_End, sa_End⟩, n_End_paid := na_End_paid, ic_End := ⟨⟨pg_End, hd_End, po_End, sa_End⟩, xa_End, xn_End, xt_End, xm_End, (by unfold PySem.W.kitOne; simp)⟩, kc_End_Lot := kit_own exk_End_Lot kic_Lot kty_Lot ess_k_End, kc_End_Turn := kit_own exk_End_Turn kic_Turn kty_Turn ess_k_End, C_Lot := C_Lot, m_Lot := PySem.W.mg_of X G ac_Lot, cl_Lot := ⟨pg_Lot, hd_Lot, po_Lot, sa_Lot⟩, n_Lot_parts := na_Lot_parts, ic_Lot := ⟨⟨pg_Lot, hd_Lot, po_Lot, sa_Lot⟩, xa_Lot, xn_Lot, xt_Lot, xm_Lot, (by unfold PySem.W.kitOne; simp)⟩, kc_Lot_End := kit_own exk_Lot_End kic_End kty_End ess_k_Lot, kc_Lot_Turn := kit_own exk_Lot_Turn kic_Turn kty_Turn ess_k_Lot, C_Turn := C_Turn, m_Turn := PySem.W.mg_of X G ac_Turn, cl_Turn := ⟨pg_Turn, hd_Turn, po_Turn, sa_Turn⟩, n_Turn_player := na_Turn_player, n_Turn_view := na_Turn_view, n_Turn_parts := na_Turn_parts, ic_Turn := ⟨⟨pg_Turn, hd_Turn, po_Turn, sa_Turn⟩, xa_Turn, xn_Turn, xt_Turn, xm_Turn, (by unfold PySem.W.kitOne; simp)⟩, kc_Turn_End := kit_own exk_Turn_End kic_End kty_End ess_k_Turn, kc_Turn_Lot := kit_own exk_Turn_Lot kic_Lot kty_Lot ess_k_Turn, a_End_init := f1, d_End_init := _, F_End_init := fun_mk (st := s_End_init) l1 c1 k1, b_End_init := (fun_mk (st := s_End_init) l1 c1 k1).binds (ps := ["self", "paid"]) (fun _ _ _ _ _ _ us hl => match us, hl with | [_, _], _ => rfl), mk_End := ⟨mkc_End, a1, i1, kpc_End⟩, a_Lot_init := f2, d_Lot_init := _, F_Lot_init := fun_mk (st := s_Lot_init) l2 c2 k2, b_Lot_init := (fun_mk (st := s_Lot_init) l2 c2 k2).binds (ps := ["self", "parts"]) (fun _ _ _ _ _ _ us hl => match us, hl with | [_, _], _ => rfl), mk_Lot := ⟨mkc_Lot, a2, i2, kpc_Lot⟩, a_Turn_init := f3, d_Turn_init := _, F_Turn_init := fun_mk (st := s_Turn_init) l3 c3 k3, b_Turn_init := (fun_mk (st := s_Turn_init) l3 c3 k3).binds (ps := ["self", "player", "view", "parts"]) (fun _ _ _ _ _ _ us hl => match us, hl with | [_, _, _, _], _ => rfl), mk_Turn := ⟨mkc_Turn, a3, i3, kpc_Turn⟩, a_parts_of := f4, d_parts_of := _, F_parts_of := fun_mk (st := s_parts_of) l4 c4 k4, b_parts_of := (fun_mk (st := s_parts_of) l4 c4 k4).binds (ps := ["node"]) (fun _ _ _ _ _ _ us hl => match us, hl with | [_], _ => rfl), m_parts_of := PySem.W.mg_of X G a4, a_last_row := f5, d_last_row := _, F_last_row := fun_mk (st := s_last_row) l5 c5 k5, b_last_row := (fun_mk (st := s_last_row) l5 c5 k5).binds (ps := ["view"]) (fun _ _ _ _ _ _ us hl => match us, hl with | [_], _ => rfl), m_last_row := PySem.W.mg_of X G a5, a_remembers := f6, d_remembers := _, F_remembers := fun_mk (st := s_remembers) l6 c6 k6, b_remembers := (fun_mk (st := s_remembers) l6 c6 k6).binds (ps := ["tree"]) (fun _ _ _ _ _ _ us hl => match us, hl with | [_], _ => rfl), m_remembers := PySem.W.mg_of X G a6, a_law_cell := f7, d_law_cell := _, F_law_cell := fun_mk (st := s_law_cell) l7 c7 k7, b_law_cell := (fun_mk (st := s_law_cell) l7 c7 k7).binds (ps := ["script", "k"]) (fun _ _ _ _ _ _ us hl => match us, hl with | [_, _], _ => rfl), m_law_cell := PySem.W.mg_of X G a7, a_law_row := f8, d_law_row := _, F_law_row := fun_mk (st := s_law_row) l8 c8 k8, b_law_row := (fun_mk (st := s_law_row) l8 c8 k8).binds (ps := ["cell", "count", "size"]) (fun _ _ _ _ _ _ us hl => match us, hl with | [_, _, _], _ => rfl), m_law_row := PySem.W.mg_of X G a8, a_law_stages := f9, d_law_stages := _, F_law_stages := fun_mk (st := s_law_stages) l9 c9 k9, b_law_stages := (fun_mk (st := s_law_stages) l9 c9 k9).binds (ps := ["script", "most"]) (fun _ _ _ _ _ _ us hl => match us, hl with | [_, _], _ => rfl), m_law_stages := PySem.W.mg_of X G a9, a_law_paths := f10, d_law_paths := _, F_law_paths := fun_mk (st := s_law_paths) l10 c10 k10, b_law_paths := (fun_mk (st := s_law_paths) l10 c10 k10).binds (ps := ["stages"]) (fun _ _ _ _ _ _ us hl => match us, hl with | [_], _ => rfl), m_law_paths := PySem.W.mg_of X G a10, a_law_view := f11, d_law_view := _, F_law_view := fun_mk (st := s_law_view) l11 c11 k11, b_law_view := (fun_mk (st := s_law_view) l11 c11 k11).binds (ps := ["stages", "path", "player"]) (fun _ _ _ _ _ _ us hl => match us, hl with | [_, _, _], _ => rfl), m_law_view := PySem.W.mg_of X G a11, a_law_asked := f12, d_law_asked := _, F_law_asked := fun_mk (st := s_law_asked) l12 c12 k12, b_law_asked := (fun_mk (st := s_law_asked) l12 c12 k12).binds (ps := ["stages", "path"]) (fun _ _ _ _ _ _ us hl => match us, hl with | [_, _], _ => rfl), m_law_asked := PySem.W.mg_of X G a12, a_law_changed := f13, d_law_changed := _, F_law_changed := fun_mk (st := s_law_changed) l13 c13 k13, b_law_changed := (fun_mk (st := s_law_changed) l13 c13 k13).binds (ps := ["stages", "path", "place", "view"]) (fun _ _ _ _ _ _ us hl => match us, hl with | [_, _, _, _], _ => rfl), m_law_changed := PySem.W.mg_of X G a13, a_law_last := f14, d_law_last := _, F_law_last := fun_mk (st := s_law_last) l14 c14 k14, b_law_last := (fun_mk (st := s_law_last) l14 c14 k14).binds (ps := ["view"]) (fun _ _ _ _ _ _ us hl => match us, hl with | [_], _ => rfl), m_law_last := PySem.W.mg_of X G a14, a_law_keeps := f15, d_law_keeps := _, F_law_keeps := fun_mk (st := s_law_keeps) l15 c15 k15, b_law_keeps := (fun_mk (st := s_law_keeps) l15 c15 k15).binds (ps := ["stages", "place", "view"]) (fun _ _ _ _ _ _ us hl => match us, hl with | [_, _, _], _ => rfl), m_law_keeps := PySem.W.mg_of X G a15, a_law_spoilt := f16, d_law_spoilt := _, F_law_spoilt := fun_mk (st := s_law_spoilt) l16 c16 k16, b_law_spoilt := (fun_mk (st := s_law_spoilt) l16 c16 k16).binds (ps := ["view", "cell"]) (fun _ _ _ _ _ _ us hl => match us, hl with | [_, _], _ => rfl), m_law_spoilt := PySem.W.mg_of X G a16, a_law_bool := f17, d_law_bool := _, F_law_bool := fun_mk (st := s_law_bool) l17 c17 k17, b_law_bool := (fun_mk (st := s_law_bool) l17 c17 k17).binds (ps := ["actual", "due"]) (fun _ _ _ _ _ _ us hl => match us, hl with | [_, _], _ => rfl), m_law_bool := PySem.W.mg_of X G a17, a_law := fa, d_law := _, F_law := fun_mk (st := s_law) l18 c18 k18, b_law := (fun_mk (st := s_law) l18 c18 k18).binds (ps := ["script"]) (fun _ _ _ _ _ _ us hl => match us, hl with | [_], _ => rfl), m_law := PySem.W.mg_of X G a18, z_bool := PySem.W.mg_none_of X G z_bool, z_enumerate := PySem.W.mg_none_of X G z_enumerate, z_int := PySem.W.mg_none_of X G z_int, z_isinstance := PySem.W.mg_none_of X G z_isinstance, z_len := PySem.W.mg_none_of X G z_len, z_range := PySem.W.mg_none_of X G z_range, z_sum := PySem.W.mg_none_of X G z_sum, z_tuple := PySem.W.mg_none_of X G z_tuple }
  exact ⟨T.d_law, fun s v => .of_eq rfl, fun base _ _ => ok_law T⟩
end Own
open PySem PySem.W PyProof.Rows
set_option maxHeartbeats 0 in
theorem PySem.Challenge.cw_sureplay_k35_trees_that_do_not_remember_holds : PySem.Challenge.rw_sureplay_k35_trees_that_do_not_remember.Holds := by
  w_on; o_law; k_head; (case hw => w_witness2)
  k_fill
  refine L2.walk_of (l := PySem.Challenge.rw_sureplay_k35_trees_that_do_not_remember) (n := 63) (k := 9) (x := "script") (CX := fun _ => L2.CX0) (sp := fun w => Own.spLaw _) rfl (by decide) rfl ⟨rfl, by decide, by decide⟩ (fun w h Y => PySem.W.kIn_of Y) ?F (fun _ _ a ns hl _ hS => ⟨a, ns, rfl, hS, hl, fun _ => rfl⟩) (fun _ _ _ _ _ h => h)
  case F =>
    intro w mg fa h KX G hmg
    refine' Own.all_mk KX G hmg ?ac_End ?pg_End ?hd_End ?po_End ?sa_End ?mkc_End ?kpc_End ?na_End_paid ?xa_End ?xn_End ?xt_End ?xm_End ?kic_End ?kty_End ?ess_k_End ?exk_End_Lot ?exk_End_Turn ?ac_Lot ?pg_Lot ?hd_Lot ?po_Lot ?sa_Lot ?mkc_Lot ?kpc_Lot ?na_Lot_parts ?xa_Lot ?xn_Lot ?xt_Lot ?xm_Lot ?kic_Lot ?kty_Lot ?ess_k_Lot ?exk_Lot_End ?exk_Lot_Turn ?ac_Turn ?pg_Turn ?hd_Turn ?po_Turn ?sa_Turn ?mkc_Turn ?kpc_Turn ?na_Turn_player ?na_Turn_view ?na_Turn_parts ?xa_Turn ?xn_Turn ?xt_Turn ?xm_Turn ?kic_Turn ?kty_Turn ?ess_k_Turn ?exk_Turn_End ?exk_Turn_Lot ?a1 ?i1 ?l1 ?c1 ?k1 ?a2 ?i2 ?l2 ?c2 ?k2 ?a3 ?i3 ?l3 ?c3 ?k3 ?a4 ?l4 ?c4 ?k4 ?a5 ?l5 ?c5 ?k5 ?a6 ?l6 ?c6 ?k6 ?a7 ?l7 ?c7 ?k7 ?a8 ?l8 ?c8 ?k8 ?a9 ?l9 ?c9 ?k9 ?a10 ?l10 ?c10 ?k10 ?a11 ?l11 ?c11 ?k11 ?a12 ?l12 ?c12 ?k12 ?a13 ?l13 ?c13 ?k13 ?a14 ?l14 ?c14 ?k14 ?a15 ?l15 ?c15 ?k15 ?a16 ?l16 ?c16 ?k16 ?a17 ?l17 ?c17 ?k17 ?a18 ?l18 ?c18 ?k18 ?z_bool ?z_enumerate ?z_int ?z_isinstance ?z_len ?z_range ?z_sum ?z_tuple
    (case ac_End => k_is)
    (case ac_Lot => k_is)
    (case ac_Turn => k_is)
    (case pg_End => k_is)
    (case hd_End => k_is)
    (case po_End => k_is)
    (case sa_End => k_is)
    (case mkc_End => k_is)
    (case kpc_End => k_is)
    (case na_End_paid => k_is)
    (case xa_End => k_is)
    (case xn_End => k_is)
    (case xt_End => k_is)
    (case xm_End => k_is)
    (case kic_End => k_is)
    (case kty_End => k_is)
    (case ess_k_End => first | rfl | k_is)
    (case exk_End_Lot => k_is)
    (case exk_End_Turn => k_is)
    (case pg_Lot => k_is)
    (case hd_Lot => k_is)
    (case po_Lot => k_is)
    (case sa_Lot => k_is)
    (case mkc_Lot => k_is)
    (case kpc_Lot => k_is)
    (case na_Lot_parts => k_is)
    (case xa_Lot => k_is)
    (case xn_Lot => k_is)
    (case xt_Lot => k_is)
    (case xm_Lot => k_is)
    (case kic_Lot => k_is)
    (case kty_Lot => k_is)
    (case ess_k_Lot => first | rfl | k_is)
    (case exk_Lot_End => k_is)
    (case exk_Lot_Turn => k_is)
    (case pg_Turn => k_is)
    (case hd_Turn => k_is)
    (case po_Turn => k_is)
    (case sa_Turn => k_is)
    (case mkc_Turn => k_is)
    (case kpc_Turn => k_is)
    (case na_Turn_player => k_is)
    (case na_Turn_view => k_is)
    (case na_Turn_parts => k_is)
    (case xa_Turn => k_is)
    (case xn_Turn => k_is)
    (case xt_Turn => k_is)
    (case xm_Turn => k_is)
    (case kic_Turn => k_is)
    (case kty_Turn => k_is)
    (case ess_k_Turn => first | rfl | k_is)
    (case exk_Turn_End => k_is)
    (case exk_Turn_Lot => k_is)
    (case a1 => k_is)
    (case i1 => k_is)
    (case l1 => k_is)
    (case c1 => k_is)
    (case k1 => k_is)
    (case a2 => k_is)
    (case i2 => k_is)
    (case l2 => k_is)
    (case c2 => k_is)
    (case k2 => k_is)
    (case a3 => k_is)
    (case i3 => k_is)
    (case l3 => k_is)
    (case c3 => k_is)
    (case k3 => k_is)
    (case a4 => k_is)
    (case l4 => k_is)
    (case c4 => k_is)
    (case k4 => k_is)
    (case a5 => k_is)
    (case l5 => k_is)
    (case c5 => k_is)
    (case k5 => k_is)
    (case a6 => k_is)
    (case l6 => k_is)
    (case c6 => k_is)
    (case k6 => k_is)
    (case a7 => k_is)
    (case l7 => k_is)
    (case c7 => k_is)
    (case k7 => k_is)
    (case a8 => k_is)
    (case l8 => k_is)
    (case c8 => k_is)
    (case k8 => k_is)
    (case a9 => k_is)
    (case l9 => k_is)
    (case c9 => k_is)
    (case k9 => k_is)
    (case a10 => k_is)
    (case l10 => k_is)
    (case c10 => k_is)
    (case k10 => k_is)
    (case a11 => k_is)
    (case l11 => k_is)
    (case c11 => k_is)
    (case k11 => k_is)
    (case a12 => k_is)
    (case l12 => k_is)
    (case c12 => k_is)
    (case k12 => k_is)
    (case a13 => k_is)
    (case l13 => k_is)
    (case c13 => k_is)
    (case k13 => k_is)
    (case a14 => k_is)
    (case l14 => k_is)
    (case c14 => k_is)
    (case k14 => k_is)
    (case a15 => k_is)
    (case l15 => k_is)
    (case c15 => k_is)
    (case k15 => k_is)
    (case a16 => k_is)
    (case l16 => k_is)
    (case c16 => k_is)
    (case k16 => k_is)
    (case a17 => k_is)
    (case l17 => k_is)
    (case c17 => k_is)
    (case k17 => k_is)
    (case a18 => k_is)
    (case l18 => k_is)
    (case c18 => k_is)
    (case k18 => k_is)
    (case z_bool => k_is)
    (case z_enumerate => k_is)
    (case z_int => k_is)
    (case z_isinstance => k_is)
    (case z_len => k_is)
    (case z_range => k_is)
    (case z_sum => k_is)
    (case z_tuple => k_is)
#print axioms PySem.Challenge.cw_sureplay_k35_trees_that_do_not_remember_holds
