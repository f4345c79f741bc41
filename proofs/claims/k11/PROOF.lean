import PyProof.Rows.All
import Wide.All
import OpenK.AllK
import Wide.FinOn
import HandS.TupAny
import HandS.ForMost
import HandS.IsInst
import HandS.Codes
import HandS.Walk
import HandS.Text
import HandS.StrMore
import PySem.Challenge.RW_sureplay_k11_names_and_numbers
set_option Elab.async false
set_option linter.all false
set_option maxRecDepth 100000
set_option maxHeartbeats 4000000
namespace Own
open PySem PySem.Spec PyProof.Rows L2
def topS (i : Nat) : Stmt := PySem.Challenge.pw_sureplay_k11_names_and_numbers.main.body.getD i (.Pass ⟨0, 0, 0, 0⟩)
abbrev s_is_name : Stmt := (topS 7)
abbrev N_is_name : List Str := ["word", "sign"]
theorem sc_is_name : FnScope N_is_name ["word"] (defScope s_is_name) := ⟨rfl, rfl, rfl, by decide +kernel, rfl, by decide +kernel, by decide +kernel⟩
abbrev s_number_of : Stmt := (topS 8)
abbrev N_number_of : List Str := ["word", "number"]
theorem sc_number_of : FnScope N_number_of ["word"] (defScope s_number_of) := ⟨rfl, rfl, rfl, by decide +kernel, rfl, by decide +kernel, by decide +kernel⟩
abbrev s_law_pool : Stmt := (topS 10)
abbrev N_law_pool : List Str := ["script", "budget"]
theorem sc_law_pool : FnScope N_law_pool ["script", "budget"] (defScope s_law_pool) := ⟨rfl, rfl, rfl, by decide +kernel, rfl, by decide +kernel, by decide +kernel⟩
abbrev s_law_draw : Stmt := (topS 11)
abbrev N_law_draw : List Str := ["pool", "size", "cell", "value"]
theorem sc_law_draw : FnScope N_law_draw ["pool", "size"] (defScope s_law_draw) := ⟨rfl, rfl, rfl, by decide +kernel, rfl, by decide +kernel, by decide +kernel⟩
abbrev s_law_same : Stmt := (topS 15)
abbrev N_law_same : List Str := ["actual", "due", "k"]
theorem sc_law_same : FnScope N_law_same ["actual", "due"] (defScope s_law_same) := ⟨rfl, rfl, rfl, by decide +kernel, rfl, by decide +kernel, by decide +kernel⟩
abbrev s_law_keys : Stmt := (topS 16)
abbrev N_law_keys : List Str := ["text"]
theorem sc_law_keys : FnScope N_law_keys [] (defScope s_law_keys) := ⟨rfl, rfl, rfl, by decide +kernel, rfl, by decide +kernel, by decide +kernel⟩
abbrev s_law_word : Stmt := (topS 17)
abbrev N_law_word : List Str := ["pool", "kind", "word", "number", "signs", "size", "place", "others", "k"]
theorem sc_law_word : FnScope N_law_word ["pool"] (defScope s_law_word) := ⟨rfl, rfl, rfl, by decide +kernel, rfl, by decide +kernel, by decide +kernel⟩
abbrev s_law_is_name : Stmt := (topS 18)
abbrev N_law_is_name : List Str := ["word", "good", "k", "letter"]
theorem sc_law_is_name : FnScope N_law_is_name ["word"] (defScope s_law_is_name) := ⟨rfl, rfl, rfl, by decide +kernel, rfl, by decide +kernel, by decide +kernel⟩
abbrev s_law_number_of : Stmt := (topS 19)
abbrev N_law_number_of : List Str := ["word", "number", "char"]
theorem sc_law_number_of : FnScope N_law_number_of ["word"] (defScope s_law_number_of) := ⟨rfl, rfl, rfl, by decide +kernel, rfl, by decide +kernel, by decide +kernel⟩
abbrev s_law : Stmt := (topS 20)
abbrev N_law : List Str := ["script", "word"]
theorem sc_law : FnScope N_law ["script"] (defScope s_law) := ⟨rfl, rfl, rfl, by decide +kernel, rfl, by decide +kernel, by decide +kernel⟩
def spLaw (K : PySem.W.Frag) : Sp := fun vs H Q _ => ∃ (a : Addr) (ns : List Int), vs = [.ref a] ∧ SqL K H a (ns.map V.int) ∧ ns.length ≤ 63 ∧ ∀ H', Q (.bl true) H'
def cell (ns : List Int) (k : Int) : Int := ns.getD k.toNat 0
theorem same_upd {H : Hp} {p : Addr} {o : HO} (h : H p = none) : Same H (upd H p o) := fun b x e => by
  rw [upd_ne (ne_of_none e h)]
  exact e
theorem cut_from (xs : List V) (k : Nat) : cutV xs (some (k : Int)) none = xs.drop k := by
  unfold cutV
  rw [HT.sIx_nat, HT.sIx_none]
  by_cases h : k ≤ xs.length
  · rw [Nat.min_eq_left h]
    exact List.take_of_length_le (by rw [List.length_drop]; omega)
  · rw [Nat.min_eq_right (by omega), List.drop_eq_nil_of_le (by omega), List.drop_eq_nil_of_le (by omega)]
    simp
theorem cut_to (xs : List V) (k : Nat) : cutV xs none (some (k : Int)) = xs.take k := by
  unfold cutV
  rw [HT.sIx_nat, HT.sIx_none, List.drop_zero, Nat.sub_zero]
  by_cases h : k ≤ xs.length
  · rw [Nat.min_eq_left h]
  · rw [Nat.min_eq_right (by omega), List.take_of_length_le (Nat.le_refl _), List.take_of_length_le (by omega)]
theorem cut_to' (xs : List V) (k : Int) (h : 0 ≤ k) : cutV xs none (some k) = xs.take k.toNat := by
  obtain ⟨m, rfl⟩ := Int.eq_ofNat_of_zero_le h
  exact cut_to xs m
theorem cut_from' (xs : List V) (k : Int) (h : 0 ≤ k) : cutV xs (some k) none = xs.drop k.toNat := by
  obtain ⟨m, rfl⟩ := Int.eq_ofNat_of_zero_le h
  exact cut_from xs m
theorem small_le {n : Nat} (h : n ≤ 1000) : n ≤ sizeLine := Nat.le_of_lt (small1000 h)
theorem at_ofG {α : Type} {xs : List α} {z : Int} {j : Nat} {v : α} (e : z = (j : Int)) (h : xs[j]? = some v) : atI xs z = some v := by
  rw [e]
  exact atI_nat h
theorem int_of_map {ns : List Int} {i : Nat} {y : V} (hi : (ns.map V.int)[i]? = some y) : ∃ z, ns[i]? = some z ∧ y = V.int z := by
  rw [List.getElem?_map] at hi
  cases e : ns[i]? with
  | none => rw [e] at hi; cases hi
  | some u => rw [e] at hi; exact ⟨u, rfl, (Option.some.inj hi).symm⟩
theorem dp_ints {K : PySem.W.Frag} {H : Hp} : ∀ ns : List Int, DpAll K H (ns.map V.int) (ns.map PyData.int)
  | [] => .nil
  | n :: r => .cons (.int n) (dp_ints r)
theorem lay_ints : ∀ ns : List Int, PyData.canLayAll0 (ns.map PyData.int) = true ∧ PyData.depthAll (ns.map PyData.int) = 0
  | [] => ⟨by simp [PyData.canLayAll0], by simp [PyData.depthAll]⟩
  | n :: r => by
    have ih := lay_ints r
    exact ⟨by simp [PyData.canLayAll0, PyData.canLay0, ih.1], by simp [PyData.depthAll, PyData.depth, ih.2]⟩
theorem shaped_ints (ns : List Int) : SeqAt.shaped (.list (ns.map PyData.int)) = true := by
  have h := lay_ints ns
  unfold SeqAt.shaped
  simp [PyData.canLay0, PyData.depth, h.1, h.2]
theorem eqv_ints (ns : List Int) : PyData.eqv (.list (ns.map PyData.int)) (.list (ns.map PyData.int)) = true :=
  SeqAt.eqv_refl _ (by rw [PyData.canLay0]; exact (lay_ints ns).1)

mutual
/-- data that never changes: scalars and tracked tuples of such -/
inductive Im (H : Hp) : V → PyData → Prop
  | non : Im H .non .none
  | bl (b : Bool) : Im H (.bl b) (.bool b)
  | int (i : Int) : Im H (.int i) (.int i)
  | str (x : Str) : Im H (.str x) (.str x)
  | tup {a : Addr} {xs : List V} {ds : List PyData} : H a = some (.tup xs) → ImAll H xs ds → Im H (.ref a) (.tuple ds)
inductive ImAll (H : Hp) : List V → List PyData → Prop
  | nil : ImAll H [] []
  | cons {v : V} {vs : List V} {d : PyData} {ds : List PyData} : Im H v d → ImAll H vs ds → ImAll H (v :: vs) (d :: ds)
end
/-- the tracked tuples stay -/
def KeepT (H H' : Hp) : Prop := ∀ b xs, H b = some (.tup xs) → H' b = some (.tup xs)
theorem KeepT.refl (H : Hp) : KeepT H H := fun _ _ h => h
theorem KeepT.trans {H H1 H2 : Hp} (a : KeepT H H1) (b : KeepT H1 H2) : KeepT H H2 := fun c x h => b c x (a c x h)
theorem keepT_of {H H' : Hp} (s : Same H H') : KeepT H H' := fun b xs h => s b _ h
theorem keepT_lst {H : Hp} {p : Addr} {xs ys : List V} (h : H p = some (.lst xs)) : KeepT H (upd H p (.lst ys)) := fun b zs e => by
  have n : b ≠ p := fun q => by rw [q, h] at e; cases e
  rw [upd_ne n]
  exact e
mutual
theorem Im.keep {H H' : Hp} (k : KeepT H H') : ∀ {v : V} {d : PyData}, Im H v d → Im H' v d
  | _, _, .non => .non
  | _, _, .bl b => .bl b
  | _, _, .int i => .int i
  | _, _, .str x => .str x
  | _, _, .tup h a => .tup (k _ _ h) (ImAll.keep k a)
theorem ImAll.keep {H H' : Hp} (k : KeepT H H') : ∀ {vs : List V} {ds : List PyData}, ImAll H vs ds → ImAll H' vs ds
  | _, _, .nil => .nil
  | _, _, .cons h a => .cons (Im.keep k h) (ImAll.keep k a)
end
mutual
theorem Im.dp {K : PySem.W.Frag} {H : Hp} : ∀ {v : V} {d : PyData}, Im H v d → Dp K H v d
  | _, _, .non => .non
  | _, _, .bl b => .bl b
  | _, _, .int i => .int i
  | _, _, .str x => .str x
  | _, _, .tup h a => .tup (SqT.of h) (ImAll.dp a)
theorem ImAll.dp {K : PySem.W.Frag} {H : Hp} : ∀ {vs : List V} {ds : List PyData}, ImAll H vs ds → DpAll K H vs ds
  | _, _, .nil => .nil
  | _, _, .cons h a => .cons (Im.dp h) (ImAll.dp a)
end
theorem ImAll.len {H : Hp} : ∀ {vs : List V} {ds : List PyData}, ImAll H vs ds → vs.length = ds.length
  | _, _, .nil => rfl
  | _, _, .cons _ a => by rw [List.length_cons, List.length_cons, ImAll.len a]
theorem ImAll.append {H : Hp} : ∀ {vs us : List V} {ds es : List PyData}, ImAll H vs ds → ImAll H us es → ImAll H (vs ++ us) (ds ++ es)
  | _, _, _, _, .nil, b => b
  | _, _, _, _, .cons h a, b => .cons h (ImAll.append a b)
theorem ImAll.get {H : Hp} : ∀ {vs : List V} {ds : List PyData} {i : Nat} {d : PyData}, ImAll H vs ds → ds[i]? = some d → ∃ v, vs[i]? = some v ∧ Im H v d
  | _, _, 0, _, .cons h _, e => by
    cases e
    exact ⟨_, rfl, h⟩
  | _, _, i + 1, _, .cons _ a, e => by
    rw [List.getElem?_cons_succ] at e
    rw [List.getElem?_cons_succ]
    exact ImAll.get a e
theorem ImAll.take {H : Hp} : ∀ {vs : List V} {ds : List PyData} (i : Nat), ImAll H vs ds → ImAll H (vs.take i) (ds.take i)
  | _, _, 0, _ => by
    rw [List.take_zero, List.take_zero]
    exact .nil
  | _, _, _ + 1, .nil => by
    rw [List.take_nil, List.take_nil]
    exact .nil
  | _, _, i + 1, .cons h a => .cons h (ImAll.take i a)
theorem ImAll.snoc {H : Hp} {vs : List V} {ds : List PyData} {v : V} {d : PyData} (a : ImAll H vs ds) (h : Im H v d) : ImAll H (vs ++ [v]) (ds ++ [d]) := a.append (.cons h .nil)
theorem ImAll.rev {H : Hp} : ∀ {vs : List V} {ds : List PyData}, ImAll H vs ds → ImAll H vs.reverse ds.reverse
  | _, _, .nil => .nil
  | _, _, .cons h a => by
    rw [List.reverse_cons, List.reverse_cons]
    exact (ImAll.rev a).snoc h
mutual
/-- all sequences are short -/
def wide : PyData → Bool
  | .list xs => decide (xs.length ≤ 1000000) && wideAll xs
  | .tuple xs => decide (xs.length ≤ 1000000) && wideAll xs
  | .none => true
  | .bool _ => true
  | .int _ => true
  | .str _ => true
  | .dict _ => false
def wideAll : List PyData → Bool
  | [] => true
  | x :: r => wide x && wideAll r
end
/-- what a comparison asks of data: sizes -/
def Lay (n : Nat) (d : PyData) : Prop := d.canLay0 = true ∧ d.depth ≤ n ∧ wide d = true
theorem lay_all : ∀ {n : Nat} {ds : List PyData}, (∀ d ∈ ds, Lay n d) → PyData.canLayAll0 ds = true ∧ PyData.depthAll ds ≤ n ∧ wideAll ds = true
  | n, [], _ => ⟨by simp [PyData.canLayAll0], by simp [PyData.depthAll], by simp [wideAll]⟩
  | n, d :: r, h => by
    have h1 := h d List.mem_cons_self
    have h2 := lay_all fun e he => h e (List.mem_cons_of_mem d he)
    refine ⟨by simp [PyData.canLayAll0, h1.1, h2.1], ?_, by simp [wideAll, h1.2.2, h2.2.2]⟩
    simp only [PyData.depthAll]
    exact Nat.max_le.mpr ⟨h1.2.1, h2.2.1⟩
theorem lay_tuple {n : Nat} {ds : List PyData} (hl : ds.length ≤ 1000000) (h : ∀ d ∈ ds, Lay n d) : Lay (n + 1) (.tuple ds) := by
  have q := lay_all h
  exact ⟨by simp [PyData.canLay0, q.1], by simp only [PyData.depth]; omega, by simp only [wide, q.2.2, decide_eq_true hl]; rfl⟩
theorem lay_list {n : Nat} {ds : List PyData} (hl : ds.length ≤ 1000000) (h : ∀ d ∈ ds, Lay n d) : Lay (n + 1) (.list ds) := by
  have q := lay_all h
  exact ⟨by simp [PyData.canLay0, q.1], by simp only [PyData.depth]; omega, by simp only [wide, q.2.2, decide_eq_true hl]; rfl⟩
theorem Lay.mono {n m : Nat} {d : PyData} (h : Lay n d) (l : n ≤ m) : Lay m d := ⟨h.1, Nat.le_trans h.2.1 l, h.2.2⟩
theorem Lay.shaped {n : Nat} {d : PyData} (h : Lay n d) (l : n ≤ 64) : SeqAt.shaped d = true := by
  unfold SeqAt.shaped
  rw [h.1, decide_eq_true (Nat.le_trans h.2.1 l)]
  rfl
theorem Lay.refl {n : Nat} {d : PyData} (h : Lay n d) : PyData.eqv d d = true := SeqAt.eqv_refl _ h.1
theorem lay_int (i : Int) : Lay 0 (.int i) := ⟨by simp [PyData.canLay0], by simp [PyData.depth], by simp [wide]⟩
theorem lay_str {x : Str} (h : PyData.strOk x = true) : Lay 0 (.str x) := ⟨by simp [PyData.canLay0, h], by simp [PyData.depth], by simp [wide]⟩
theorem lay_none : Lay 0 .none := ⟨by simp [PyData.canLay0], by simp [PyData.depth], by simp [wide]⟩
theorem lay_bool (b : Bool) : Lay 0 (.bool b) := ⟨by simp [PyData.canLay0], by simp [PyData.depth], by simp [wide]⟩
theorem wide_get {ds : List PyData} {i : Nat} {d : PyData} : wideAll ds = true → ds[i]? = some d → wide d = true := by
  induction ds generalizing i with
  | nil => intro _ h; simp at h
  | cons x r ih =>
    intro hw h
    simp only [wideAll, Bool.and_eq_true] at hw
    cases i with
    | zero => cases h; exact hw.1
    | succ i => exact ih (i := i) hw.2 (by rw [List.getElem?_cons_succ] at h; exact h)
/-- view + (event,) -/
theorem cat_ev {K : PySem.W.Frag} {H : Hp} {v t u : Addr} {xs : List V} {ds : List PyData} {e : PyData} {Q : VK} (hv : H v = some (.tup xs)) (hA : ImAll H xs ds) (he : Im H (.ref t) e) (hu : H u = some (.tup [.ref t])) (hz : xs.length ≤ 900)
    (k : ∀ (p : Addr) (H' : Hp), Same H H' → Im H' (.ref p) (.tuple (ds ++ [e])) → Q (.ref p) H') : rCatA K (.ref v) (.ref u) H Q := by
  refine ⟨v, u, xs, [.ref t], rfl, rfl, SqT.of hv, SqT.of hu, by show xs.length + 1 ≤ sizeLine; exact small_le (by omega), fun z => ?_, fun _ z => (by cases z), fun _ _ p hp => ?_⟩
  · subst z
    cases hA
    exact k u H (Same.refl H) (.tup hu (.cons he .nil))
  · exact k p _ (same_upd hp) (.tup upd_same ((hA.snoc he).keep (keepT_of (same_upd hp))))
theorem upd2_same {H : Hp} {t u : Addr} {o o' : HO} (ht : H t = none) (hu : upd H t o u = none) : Same H (upd (upd H t o) u o') := (same_upd ht).trans (same_upd hu)


/-- the drawing pool at p: the script's cells at c, five numbers -/
def Pool (H : Hp) (p c : Addr) (b : Int) : Prop := ∃ (ns : List Int) (i r s t : Int), H p = some (.lst [.ref c, .int i, .int r, .int s, .int t, .int b]) ∧ H c = some (.lst (ns.map V.int)) ∧ 0 ≤ i ∧ c ≠ p
def But (p : Addr) (H H' : Hp) : Prop := ∀ b o, b ≠ p → H b = some o → H' b = some o
theorem But.refl (p : Addr) (H : Hp) : But p H H := fun _ _ _ h => h
theorem But.trans {p : Addr} {H H1 H2 : Hp} (a : But p H H1) (b : But p H1 H2) : But p H H2 := fun c o n h => b c o n (a c o n h)
theorem but_of {p : Addr} {H H' : Hp} (s : Same H H') : But p H H' := fun b o _ h => s b o h
theorem but_upd {p : Addr} {H : Hp} {o : HO} : But p H (upd H p o) := fun b x n e => by rw [upd_ne n]; exact e
/-- what stood before the list at p was made stays -/
theorem But.same {p : Addr} {H0 H H' : Hp} (b : But p H H') (s : Same H0 H) (n : H0 p = none) : Same H0 H' := fun c o e => b c o (ne_of_none e n) (s c o e)
theorem But.keepT {p : Addr} {xs : List V} {H H' : Hp} (b : But p H H') (h : H p = some (.lst xs)) : KeepT H H' := fun c ys e => b c _ (fun z => by rw [z, h] at e; cases e) e
theorem Pool.keepT {p c : Addr} {b : Int} {H H' : Hp} (h : Pool H p c b) (k : But p H H') : KeepT H H' := by
  obtain ⟨ns, i, r, s, t, hp, _⟩ := h
  exact k.keepT hp
theorem Pool.same {p c : Addr} {b : Int} {H H' : Hp} (h : Pool H p c b) (k : Same H H') : Pool H' p c b := by
  obtain ⟨ns, i, r, s, t, hp, hc, h0, n⟩ := h
  exact ⟨ns, i, r, s, t, k _ _ hp, k _ _ hc, h0, n⟩
theorem Pool.upd {p c q : Addr} {b : Int} {H : Hp} (h : Pool H p c b) (n1 : q ≠ p) (n2 : q ≠ c) (o : HO) : Pool (L2.upd H q o) p c b := by
  obtain ⟨ns, i, r, s, t, hp, hc, h0, n⟩ := h
  exact ⟨ns, i, r, s, t, by rw [upd_ne n1.symm]; exact hp, by rw [upd_ne n2.symm]; exact hc, h0, n⟩
theorem Pool.ne2 {p c q : Addr} {b : Int} {H : Hp} (h : Pool H p c b) (e : H q = none) : q ≠ c := by
  obtain ⟨ns, i, r, s, t, hp, hc, _⟩ := h
  exact fun z => by rw [z, hc] at e; cases e
theorem Pool.ne {p c q : Addr} {b : Int} {H : Hp} (h : Pool H p c b) (e : H q = none) : q ≠ p := by
  obtain ⟨ns, i, r, s, t, hp, _⟩ := h
  exact fun z => by rw [z, hp] at e; cases e
/-- data of any make: tuples and lists that are tracked -/
inductive Da (H : Hp) : V → PyData → Prop
  | non : Da H .non .none
  | bl (b : Bool) : Da H (.bl b) (.bool b)
  | int (i : Int) : Da H (.int i) (.int i)
  | str (x : Str) : Da H (.str x) (.str x)
  | tup {a : Addr} {xs : List V} {ds : List PyData} : H a = some (.tup xs) → xs.length = ds.length → (∀ (i : Nat) v d, xs[i]? = some v → ds[i]? = some d → Da H v d) → Da H (.ref a) (.tuple ds)
  | lst {a : Addr} {xs : List V} {ds : List PyData} : H a = some (.lst xs) → xs.length = ds.length → (∀ (i : Nat) v d, xs[i]? = some v → ds[i]? = some d → Da H v d) → Da H (.ref a) (.list ds)
mutual
theorem Im.da {H : Hp} : ∀ {v : V} {d : PyData}, Im H v d → Da H v d
  | _, _, .non => .non
  | _, _, .bl b => .bl b
  | _, _, .int i => .int i
  | _, _, .str x => .str x
  | _, _, .tup h a => .tup h a.len (ImAll.da a)
theorem ImAll.da {H : Hp} : ∀ {vs : List V} {ds : List PyData}, ImAll H vs ds → ∀ (i : Nat) v d, vs[i]? = some v → ds[i]? = some d → Da H v d
  | _, _, .nil => fun i v d h _ => by simp at h
  | _, _, .cons h a => fun i v d h1 h2 => match i, h1, h2 with
    | 0, h1, h2 => by
      cases h1
      cases h2
      exact Im.da h
    | i + 1, h1, h2 => ImAll.da a i v d (by rw [List.getElem?_cons_succ] at h1; exact h1) (by rw [List.getElem?_cons_succ] at h2; exact h2)
end
theorem Da.strs {H : Hp} {a : Addr} {ys : List Str} (h : H a = some (.lst (ys.map V.str))) : Da H (.ref a) (.list (ys.map PyData.str)) := by
  refine .lst h (by rw [List.length_map, List.length_map]) fun i v d h1 h2 => ?_
  rw [List.getElem?_map] at h1 h2
  cases e : ys[i]? with
  | none => rw [e] at h1; cases h1
  | some y =>
    rw [e] at h1 h2
    cases h1
    cases h2
    exact .str y
theorem depth_get {ds : List PyData} {i : Nat} {d : PyData} : ds[i]? = some d → d.depth ≤ PyData.depthAll ds := by
  induction ds generalizing i with
  | nil => intro h; simp at h
  | cons x r ih =>
    intro h
    simp only [PyData.depthAll]
    cases i with
    | zero => cases h; exact Nat.le_max_left _ _
    | succ i => exact Nat.le_trans (ih (i := i) (by rw [List.getElem?_cons_succ] at h; exact h)) (Nat.le_max_right _ _)

/-- all signs below 128 -/
def Asc (x : Str) : Prop := ∀ c ∈ x.cps.toList, c < 128
def keyL : List Str := ["option", "on", "off", "var", "round", "end", "set", "if", "else", "when", "draw", "first", "second", "show", "both", "pay", "take", "pick", "mod", "player", "keep", "lot", "while", "answer", "view", "long"]
def keyV : List V := keyL.map V.str
theorem key_flat : keyV.all flatV = true := by decide +kernel
def loL : List Nat := List.range' 97 26
def ldL : List Nat := List.range' 97 26 ++ List.range' 48 10
def lettersS : Str := "abcdefghijklmnopqrstuvwxyz"
def ldS : Str := "abcdefghijklmnopqrstuvwxyz0123456789"
theorem letters_eq : lettersS.cps.toList = loL := by decide +kernel
theorem ld_eq : ldS.cps.toList = ldL := by decide +kernel
theorem lo_mem (c : Nat) : c ∈ loL ↔ 97 ≤ c ∧ c ≤ 122 := by
  unfold loL
  rw [List.mem_range'_1]
  omega
theorem ld_mem (c : Nat) : c ∈ ldL ↔ (97 ≤ c ∧ c ≤ 122) ∨ (48 ≤ c ∧ c ≤ 57) := by
  unfold ldL
  rw [List.mem_append, List.mem_range'_1, List.mem_range'_1]
  omega
def othersS : Str := "ABCDEFGHIJKLMNOPQRSTUVWXYZ !\"#$&'()*+,-./:;<=>?@\x5b\\]^_`{|}~\n\t"
def okAt (k c : Nat) : Prop := (97 ≤ c ∧ c ≤ 122) ∨ (0 < k ∧ 48 ≤ c ∧ c ≤ 57)
/-- a name -/
def NameP (x : Str) : Prop := 1 ≤ x.length ∧ x.length ≤ 12 ∧ inV (.str x) keyV = false ∧ ∀ k c, x.cps.toList[k]? = some c → okAt k c
/-- one sign against one sign -/
theorem lt1 (a b : Nat) : ((⟨#[a]⟩ : Str).cps.toList < (⟨#[b]⟩ : Str).cps.toList) ↔ a < b := by
  show [a] < [b] ↔ a < b
  constructor
  · intro h
    rcases List.cons_lt_cons_iff.mp h with h | ⟨_, h⟩
    · exact h
    · exact absurd h (by simp)
  · intro h
    exact List.cons_lt_cons_iff.mpr (.inl h)
/-- a number's word and what it is -/
def NumR (x : Str) (r : V) : Prop := (∃ n : Nat, n ≤ 65535 ∧ x.cps.toList = TL.numL n ∧ r = .int n) ∨ ((∀ n : Nat, n ≤ 65535 → x.cps.toList ≠ TL.numL n) ∧ r = .non)
theorem num_same {x : Str} {r q : V} (h : NumR x r) (g : NumR x q) : r = q := by
  rcases h with ⟨n, hn, e, rfl⟩ | ⟨h, rfl⟩
  · rcases g with ⟨m, hm, e2, rfl⟩ | ⟨g, rfl⟩
    · rw [TL.numL_inj (e.symm.trans e2)]
    · exact absurd e (g n hn)
  · rcases g with ⟨m, hm, e2, rfl⟩ | ⟨g, rfl⟩
    · exact absurd e2 (h m hm)
    · rfl
theorem num_da {x : Str} {r : V} {H : Hp} (h : NumR x r) : ∃ d : PyData, Da H r d ∧ d.depth < 8 ∧ wide d = true := by
  rcases h with ⟨n, hn, e, rfl⟩ | ⟨h, rfl⟩
  · exact ⟨.int n, .int _, by simp [PyData.depth], by simp [wide]⟩
  · exact ⟨.none, .non, by simp [PyData.depth], by simp [wide]⟩
theorem asc_isascii {x : Str} (h : Asc x) : Txt.isascii x = true := by
  unfold Txt.isascii
  rw [Array.all_eq_true_iff_forall_mem]
  intro c m
  exact decide_eq_true (h c (Array.mem_toList_iff.mpr m))
theorem digit128 : ∀ c, c < 128 → PySem.Unicode.isDigit c = (decide (48 ≤ c) && decide (c ≤ 57)) := by decide +kernel
theorem isdigit_iff {x : Str} (h : Asc x) : Txt.isdigit x = true ↔ (NumText.AllDigits x.cps.toList ∧ x.cps.toList ≠ []) := by
  unfold Txt.isdigit
  rw [Bool.and_eq_true, Array.all_eq_true_iff_forall_mem, decide_eq_true_eq]
  constructor
  · rintro ⟨h1, h2⟩
    refine ⟨fun c m => ?_, fun z => ?_⟩
    · have h3 := h2 c (Array.mem_toList_iff.mp m)
      rw [digit128 c (h c m), Bool.and_eq_true, decide_eq_true_eq, decide_eq_true_eq] at h3
      exact h3
    · have h4 : 0 < x.cps.toList.length := h1
      rw [z] at h4
      exact Nat.lt_irrefl 0 h4
  · rintro ⟨h1, h2⟩
    refine ⟨List.length_pos_iff.mpr h2, fun c m => ?_⟩
    have m' := Array.mem_toList_iff.mpr m
    have h3 := h1 c m'
    rw [digit128 c (h c m'), Bool.and_eq_true, decide_eq_true_eq, decide_eq_true_eq]
    exact h3
theorem str_num {x : Str} {n : Nat} (e : x.cps.toList = TL.numL n) : (Str.ofString (toString ((n : Nat) : Int))) = x := ext_toList ((TL.tl_num n).trans e.symm)
theorem num_str {x : Str} {n : Nat} (e : V.str (Str.ofString (toString ((n : Nat) : Int))) = V.str x) : x.cps.toList = TL.numL n := by
  rw [← V.str.inj e]
  exact TL.tl_num n
theorem dv_snoc (l : List Nat) (c : Nat) : NumText.digitsVal (l ++ [c]) = NumText.digitsVal l * 10 + (c - 48) := by
  unfold NumText.digitsVal
  rw [List.foldl_append]
  rfl
theorem name_iff {l : List Nat} {c0 : Nat} (h0 : l[0]? = some c0) : (c0 ∈ loL ∧ ∀ c ∈ l, c ∈ ldL) ↔ ∀ (k : Nat) c, l[k]? = some c → okAt k c := by
  constructor
  · rintro ⟨h1, h2⟩ k c e
    cases k with
    | zero =>
      rw [h0] at e
      cases e
      exact .inl ((lo_mem _).mp h1)
    | succ k =>
      rcases (ld_mem c).mp (h2 c (List.mem_of_getElem? e)) with h | h
      · exact .inl h
      · exact .inr ⟨Nat.succ_pos _, h⟩
  · intro h
    refine ⟨(lo_mem _).mpr ?_, fun c m => (ld_mem c).mpr ?_⟩
    · rcases h 0 c0 h0 with h | h
      · exact h
      · exact absurd h.1 (Nat.lt_irrefl 0)
    · obtain ⟨k, e⟩ := List.getElem?_of_mem m
      rcases h k c e with h | h
      · exact .inl h
      · exact .inr h.2
theorem all_iff {l : List Nat} {m : List Nat} : ((l.map fun c => decide (c ∈ m)).all id = true) ↔ ∀ c ∈ l, c ∈ m := by
  rw [List.all_eq_true]
  constructor
  · intro h c hc
    exact of_decide_eq_true (h _ (List.mem_map.mpr ⟨c, hc, rfl⟩))
  · intro h b hb
    obtain ⟨c, hc, rfl⟩ := List.mem_map.mp hb
    exact decide_eq_true (h c hc)
theorem step_iff {l : List Nat} {i c : Nat} (gc : l[i]? = some c) : (∀ (k : Nat) d, k < i + 1 → l[k]? = some d → okAt k d) ↔ (∀ (k : Nat) d, k < i → l[k]? = some d → okAt k d) ∧ okAt i c := by
  constructor
  · intro h
    exact ⟨fun k d hk => h k d (Nat.lt_succ_of_lt hk), h i c (Nat.lt_succ_self i) gc⟩
  · rintro ⟨h1, h2⟩ k d hk e
    rcases Nat.lt_succ_iff_lt_or_eq.mp hk with h | rfl
    · exact h1 k d h e
    · rw [gc] at e
      cases e
      exact h2
theorem pick {ss : List Str} {r : Int} (h0 : 0 ≤ r) (h1 : r < (ss.length : Int)) : ∃ w, w ∈ ss ∧ atI (ss.map V.str) r = some (.str w) := by
  have hlt : r.toNat < ss.length := by omega
  refine ⟨ss[r.toNat], List.getElem_mem hlt, at_ofG (j := r.toNat) (by omega) ?_⟩
  rw [List.getElem?_map, List.getElem?_eq_getElem hlt]
  rfl
theorem pickS {z : Str} {r : Int} (h0 : 0 ≤ r) (h1 : r < (z.length : Int)) : ∃ c, c ∈ z.cps.toList ∧ atI z.cps.toList r = some c := by
  have hz : z.length = z.cps.toList.length := rfl
  have hlt : r.toNat < z.cps.toList.length := by omega
  exact ⟨z.cps.toList[r.toNat], List.getElem_mem hlt, at_ofG (j := r.toNat) (by omega) (List.getElem?_eq_getElem hlt)⟩
def ascB (n : Nat) (ss : List Str) : Bool := ss.all fun w => decide (w.length ≤ n) && w.cps.toList.all fun c => decide (c < 128)
theorem asc_of {n : Nat} {ss : List Str} (h : ascB n ss = true) {w : Str} (m : w ∈ ss) : Asc w ∧ w.length ≤ n := by
  have h1 := List.all_eq_true.mp h w m
  rw [Bool.and_eq_true, decide_eq_true_eq] at h1
  exact ⟨fun c hc => of_decide_eq_true (List.all_eq_true.mp h1.2 c hc), h1.1⟩
theorem app_list (a b : Str) : (a ++ b).cps.toList = a.cps.toList ++ b.cps.toList := by
  show (a.cps ++ b.cps).toList = _
  simp
theorem app_len (a b : Str) : (a ++ b).length = a.length + b.length := by
  show (a ++ b).cps.toList.length = a.cps.toList.length + b.cps.toList.length
  rw [app_list, List.length_append]
theorem app_asc {a b : Str} (h : Asc a) (g : Asc b) : Asc (a ++ b) := by
  intro c m
  rw [app_list] at m
  rcases List.mem_append.mp m with m | m
  · exact h c m
  · exact g c m
theorem one_asc {c : Nat} (h : c < 128) : Asc ⟨#[c]⟩ := by
  intro d m
  have m' : d ∈ [c] := m
  rw [List.mem_singleton.mp m']
  exact h
theorem cutS_asc {z : Str} (h : Asc z) (lo hi : Option Int) : Asc (cutS z lo hi) := by
  intro c m
  have m' : c ∈ (((z.cps.toList.drop (HT.sIx z.length 0 lo)).take (HT.sIx z.length z.length hi - HT.sIx z.length 0 lo)).toArray).toList := m
  rw [List.toList_toArray] at m'
  exact h c (List.mem_of_mem_drop (List.mem_of_mem_take m'))
theorem num_asc (n : Nat) (h : n < 10 ^ 6) : Asc (Str.ofString (toString ((n : Nat) : Int))) ∧ (Str.ofString (toString ((n : Nat) : Int))).length ≤ 6 := by
  constructor
  · intro c m
    have m' : c ∈ TL.numL n := by rw [← TL.tl_num n]; exact m
    have := TL.numL_digits n c m'
    omega
  · have e : (Str.ofString (toString ((n : Nat) : Int))).cps.toList = TL.numL n := TL.tl_num n
    show (Str.ofString (toString ((n : Nat) : Int))).cps.toList.length ≤ 6
    rw [e]
    exact TL.numL_len (by decide) h
theorem log_small {n : Nat} (h : n < 10 ^ 101) : ((n : Nat) : Int).natAbs.log2 < 1920 := by
  rw [Int.natAbs_natCast]
  have : n.log2 ≤ 1919 := PySem.W.mg_log (Nat.lt_of_lt_of_le h (by decide +kernel))
  omega
theorem key_split : Txt.split (("option on off var round end set if else when draw first second show both pay take pick mod player keep lot" : Str) ++ (" while answer view long" : Str)) (" " : Str) = keyL := by decide +kernel
theorem join_signs : ∀ cs : List Nat, (Txt.join ("" : Str) (cs.map fun x => (⟨#[x]⟩ : Str))).cps.toList = cs := by
  have h : ∀ cs : List Nat, (Str.join ("" : Str) (cs.map fun x => (⟨#[x]⟩ : Str))).cps.toList = cs := by
    intro cs
    induction cs with
    | nil => rfl
    | cons a r ih =>
      cases r with
      | nil => rfl
      | cons b r =>
        show (((⟨#[a]⟩ : Str) ++ ("" : Str)) ++ Str.join ("" : Str) ((b :: r).map fun x => (⟨#[x]⟩ : Str))).cps.toList = a :: b :: r
        have e : ((((⟨#[a]⟩ : Str) ++ ("" : Str)) ++ Str.join ("" : Str) ((b :: r).map fun x => (⟨#[x]⟩ : Str))).cps.toList) = a :: (Str.join ("" : Str) ((b :: r).map fun x => (⟨#[x]⟩ : Str))).cps.toList := by
          show ((#[a] ++ ("" : Str).cps) ++ (Str.join ("" : Str) ((b :: r).map fun x => (⟨#[x]⟩ : Str))).cps).toList = _
          rw [Array.toList_append, Array.toList_append]
          rfl
        rw [e, ih]
  intro cs
  show (Builtin.Str.glued _ _).cps.toList = cs
  rw [StrLaws.glued_eq_join]
  exact h cs
theorem sum_signs (cs : List Nat) : ((cs.map fun x => (⟨#[x]⟩ : Str)).map (·.length)).sum = cs.length := by
  rw [List.map_map]
  induction cs with
  | nil => rfl
  | cons y r ih =>
    rw [List.map_cons, List.sum_cons, ih, List.length_cons]
    show 1 + r.length = r.length + 1
    omega
theorem ge1 {a b : Nat} : ((!decide ((⟨#[a]⟩ : Str).cps.toList < (⟨#[b]⟩ : Str).cps.toList)) = true) ↔ b ≤ a := by
  rw [Bool.not_eq_true', decide_eq_false_iff_not, lt1]
  omega

structure Txt (K : PySem.W.Frag) (mg : Str → Option Value) where
  a_is_name : Addr
  d_is_name : FuncData
  F_is_name : Fun K "is_name" "is_name" s_is_name a_is_name d_is_name
  b_is_name : Binds K d_is_name ["word"] []
  m_is_name : mg "is_name" = some (.ref a_is_name)
  a_number_of : Addr
  d_number_of : FuncData
  F_number_of : Fun K "number_of" "number_of" s_number_of a_number_of d_number_of
  b_number_of : Binds K d_number_of ["word"] []
  m_number_of : mg "number_of" = some (.ref a_number_of)
  a_law_pool : Addr
  d_law_pool : FuncData
  F_law_pool : Fun K "_law_pool" "_law_pool" s_law_pool a_law_pool d_law_pool
  b_law_pool : Binds K d_law_pool ["script", "budget"] []
  m_law_pool : mg "_law_pool" = some (.ref a_law_pool)
  a_law_draw : Addr
  d_law_draw : FuncData
  F_law_draw : Fun K "_law_draw" "_law_draw" s_law_draw a_law_draw d_law_draw
  b_law_draw : Binds K d_law_draw ["pool", "size"] []
  m_law_draw : mg "_law_draw" = some (.ref a_law_draw)
  a_law_same : Addr
  d_law_same : FuncData
  F_law_same : Fun K "_law_same" "_law_same" s_law_same a_law_same d_law_same
  b_law_same : Binds K d_law_same ["actual", "due"] []
  m_law_same : mg "_law_same" = some (.ref a_law_same)
  a_law_keys : Addr
  d_law_keys : FuncData
  F_law_keys : Fun K "_law_keys" "_law_keys" s_law_keys a_law_keys d_law_keys
  b_law_keys : Binds K d_law_keys [] []
  m_law_keys : mg "_law_keys" = some (.ref a_law_keys)
  a_law_word : Addr
  d_law_word : FuncData
  F_law_word : Fun K "_law_word" "_law_word" s_law_word a_law_word d_law_word
  b_law_word : Binds K d_law_word ["pool"] []
  m_law_word : mg "_law_word" = some (.ref a_law_word)
  a_law_is_name : Addr
  d_law_is_name : FuncData
  F_law_is_name : Fun K "_law_is_name" "_law_is_name" s_law_is_name a_law_is_name d_law_is_name
  b_law_is_name : Binds K d_law_is_name ["word"] []
  m_law_is_name : mg "_law_is_name" = some (.ref a_law_is_name)
  a_law_number_of : Addr
  d_law_number_of : FuncData
  F_law_number_of : Fun K "_law_number_of" "_law_number_of" s_law_number_of a_law_number_of d_law_number_of
  b_law_number_of : Binds K d_law_number_of ["word"] []
  m_law_number_of : mg "_law_number_of" = some (.ref a_law_number_of)
  a_law : Addr
  d_law : FuncData
  F_law : Fun K "law" "law" s_law a_law d_law
  b_law : Binds K d_law ["script"] []
  m_law : mg "law" = some (.ref a_law)
  v_LETTERS_AND_DIGITS : Value
  g_LETTERS_AND_DIGITS : mg "LETTERS_AND_DIGITS" = some v_LETTERS_AND_DIGITS
  r_LETTERS_AND_DIGITS : RelV (.str "abcdefghijklmnopqrstuvwxyz0123456789") v_LETTERS_AND_DIGITS
  v_LETTERS : Value
  g_LETTERS : mg "LETTERS" = some v_LETTERS
  r_LETTERS : RelV (.str "abcdefghijklmnopqrstuvwxyz") v_LETTERS
  A_KEY_WORDS : Addr
  g_KEY_WORDS : mg "KEY_WORDS" = some (.ref A_KEY_WORDS)
  q_KEY_WORDS : ∀ H, SqT K H A_KEY_WORDS [.str "option", .str "on", .str "off", .str "var", .str "round", .str "end", .str "set", .str "if", .str "else", .str "when", .str "draw", .str "first", .str "second", .str "show", .str "both", .str "pay", .str "take", .str "pick", .str "mod", .str "player", .str "keep", .str "lot", .str "while", .str "answer", .str "view", .str "long"]
  v_LONGEST_NAME : Value
  g_LONGEST_NAME : mg "LONGEST_NAME" = some v_LONGEST_NAME
  r_LONGEST_NAME : RelV (.int 12) v_LONGEST_NAME
  v_GREATEST_NUMBER : Value
  g_GREATEST_NUMBER : mg "GREATEST_NUMBER" = some v_GREATEST_NUMBER
  r_GREATEST_NUMBER : RelV (.int 65535) v_GREATEST_NUMBER
  v_LONGEST_NUMBER : Value
  g_LONGEST_NUMBER : mg "LONGEST_NUMBER" = some v_LONGEST_NUMBER
  r_LONGEST_NUMBER : RelV (.int 5) v_LONGEST_NUMBER
  z_all : mg "all" = none
  z_bool : mg "bool" = none
  z_int : mg "int" = none
  z_isinstance : mg "isinstance" = none
  z_len : mg "len" = none
  z_list : mg "list" = none
  z_ord : mg "ord" = none
  z_range : mg "range" = none
  z_str : mg "str" = none
  z_tuple : mg "tuple" = none
section
variable {P : Program} {w : World} {K : PySem.W.Frag} {mg : Str → Option Value} {base : Heap}
/-! ### is_name -/
def sp_is_name (T : Txt K mg) : Sp := fun vs H Q _ => ∃ (x : Str), vs = [.str x] ∧ x.length ≤ 100 ∧ ∀ (b : Bool) (H' : Hp), Same H H' → (b = true ↔ NameP x) → Q (.bl b) H'

theorem ok_is_name (T : Txt K mg) : FnOk P w K mg base CX0 1 T.a_is_name T.d_is_name ["word"] (sp_is_name T) := by
  refine T.F_is_name.ok sc_is_name (fun vs H Q E h => ?_) (fun cdv A outer s H vs Q E hr h => ?_)
  · obtain ⟨x, rfl, _⟩ := h
    rfl
  obtain ⟨x, rfl, hl, q⟩ := h
  refine ⟨_, (pss_cons (ps_if (PW.pt (pw_or (pt_not (pt_chain op_le op_le pe_int (pe_callB call_len_str (by rfl) T.z_len (by first | exact PySem.boot_len | decide +kernel) (pa_cons (pv 0) pa_nil)) (pe_glob (by rfl) T.g_LONGEST_NAME T.r_LONGEST_NAME))) (pw_or1 (pt_cmpR op_in_seq (pv 0) (pe_glob (v := .ref T.A_KEY_WORDS) (by rfl) T.g_KEY_WORDS rfl) (by with_unfolding_all rfl))))) (pss_one (ps_ret pe_bl)) pss_nil)
      (pss_one (ps_ret (pe_and (pe_cmpR op_in_sign (pe_ix ix_str (pv 0) pe_int (fun _ _ => rfl)) (pe_glob (by rfl) T.g_LETTERS T.r_LETTERS) (by with_unfolding_all rfl)) (pe_one (pe_callB (cr_all rfl) (by rfl) T.z_all (by first | exact PySem.boot_all | decide +kernel) (pa_cons (pe_lc (own := [("sign", 1)]) (g := gName 1) (tt := tYes) rfl sc_is_name.nd (pi_str (pv 0)) (blkOk_by (N := N_is_name) (sc := defScope s_is_name) (by decide +kernel)) (fun _ _ _ _ _ => (pg_name (i := 1) sc_is_name.nd rfl (by first | exact Or.inl rfl | exact Or.inr rfl))) (fun _ _ _ _ _ => pts_nil) (fun _ _ _ _ _ => (pe_cmpR op_in_sign (pv 1) (pe_glob (by rfl) T.g_LETTERS_AND_DIGITS T.r_LETTERS_AND_DIGITS) (by with_unfolding_all rfl)))) pa_nil))))))), ?_⟩
  have hx0 : x.length = x.cps.toList.length := rfl
  have tkA : x.cps.toList.take x.cps.size = x.cps.toList := List.take_of_length_le (Nat.le_refl _)
  refine ⟨_, rfl, x, rfl, small_le (by omega), _, _, rfl, rfl, _, rfl, ite2 (fun c1 => ?_) (fun c1 => ?_)⟩
  · refine ⟨_, _, rfl, rfl, _, rfl, ite2 (fun c2 => ?_) (fun c2 => ?_)⟩
    · refine iteT ?_
      refine q false H (fun _ _ h => h) ⟨fun z => (by cases z), fun z => ?_⟩
      have c2' : ¬ ((x.length : Int) ≤ 12) := fun y => by
        rw [decide_eq_true y] at c2
        cases c2
      exact absurd z.2.1 (by omega)
    · have c2' : (x.length : Int) ≤ 12 := by
        by_cases y : (x.length : Int) ≤ 12
        · exact y
        · rw [decide_eq_false y] at c2
          exact absurd rfl c2
      have c1' : (1 : Int) ≤ (x.length : Int) := of_decide_eq_true c1
      refine ⟨_, rfl, T.A_KEY_WORDS, keyV, rfl, .inr (T.q_KEY_WORDS H), rfl, key_flat, _, rfl, ite2 (fun c3 => ?_) (fun c3 => ?_)⟩
      · refine q false H (fun _ _ h => h) ⟨fun z => (by cases z), fun z => ?_⟩
        have c3' : inV (.str x) keyV = true := c3
        rw [z.2.2.1] at c3'
        cases c3'
      · have c3' : inV (.str x) keyV = false := by
          cases e : inV (.str x) keyV with
          | false => rfl
          | true => exact absurd e c3
        have hlen : 0 < x.cps.toList.length := by
          have : x.length = x.cps.toList.length := rfl
          omega
        have g0 : x.cps.toList[0]? = some (x.cps.toList[0]) := List.getElem?_eq_getElem hlen
        generalize x.cps.toList[0] = c0 at g0
        have key := name_iff g0
        refine ⟨_, rfl, x, 0, c0, rfl, rfl, small_le (by omega), at_ofG (j := 0) rfl g0, c0, lettersS, rfl, rfl, _, rfl, ite2 (fun c4 => ?_) (fun c4 => ?_)⟩
        · have c4' : c0 ∈ loL := by rw [← letters_eq]; exact of_decide_eq_true c4
          refine ⟨_, rfl, x, rfl, fun D hD => ?_⟩
          refine lc_it (walk_str (z := x)) (fun i H' => Same H H' ∧ H' D = some (.lst (((x.cps.toList.take i).map fun c => decide (c ∈ ldL)).map V.bl))) ⟨same_upd hD, upd_same⟩ (fun _ _ _ _ => trivial) (fun i y H5 H6 hi ⟨s5, e5⟩ ⟨e6, c, gc, ey⟩ => ?_) (fun H5 ⟨s5, e5⟩ => ?_)
          · subst e6
            subst ey
            have gl : x.cps.toList[i]? = some c := by rw [Array.getElem?_toList]; exact gc
            have tk : x.cps.toList.take (i + 1) = x.cps.toList.take i ++ [c] := by rw [List.take_add_one, gl]; rfl
            refine ⟨rfl, ?_⟩
            refine ⟨_, rfl, c, ldS, rfl, rfl, _, e5, ?_, ?_, ?_⟩
            · rw [List.length_map, List.length_map, List.length_take]
              exact small1000 (by omega)
            · intro b o eb
              rw [upd_ne (ne_of_none eb hD)]
              exact s5 b o eb
            · rw [upd_same, tk, List.map_append, List.map_append, ← ld_eq]
              rfl
          · refine ⟨D, _, rfl, SqL.of e5, ?_⟩
            refine q _ _ s5 ⟨fun z => ?_, fun z => ?_⟩
            · rw [tkA] at z
              exact ⟨by omega, by omega, c3', key.mp ⟨c4', all_iff.mp z⟩⟩
            · rw [tkA]
              exact all_iff.mpr (key.mpr z.2.2.2).2
        · refine q false H (fun _ _ h => h) ⟨fun z => (by cases z), fun z => ?_⟩
          refine absurd (decide_eq_true ?_) c4
          have := (key.mpr z.2.2.2).1
          rw [← letters_eq] at this
          exact this
  · refine ⟨_, rfl, iteT (iteT ?_)⟩
    refine q false H (fun _ _ h => h) ⟨fun z => (by cases z), fun z => ?_⟩
    exact absurd (decide_eq_true (show (1 : Int) ≤ (x.length : Int) by have := z.1; omega)) c1
/-! ### number_of -/
def sp_number_of (T : Txt K mg) : Sp := fun vs H Q _ => ∃ (x : Str), vs = [.str x] ∧ Asc x ∧ x.length ≤ 100 ∧ ∀ (r : V), NumR x r → Q r H

theorem ok_number_of (T : Txt K mg) : FnOk P w K mg base CX0 1 T.a_number_of T.d_number_of ["word"] (sp_number_of T) := by
  refine T.F_number_of.ok sc_number_of (fun vs H Q E h => ?_) (fun cdv A outer s H vs Q E hr h => ?_)
  · obtain ⟨x, rfl, _⟩ := h
    rfl
  obtain ⟨x, rfl, ha, hl, q⟩ := h
  refine ⟨_, (pss_cons (ps_if (PW.pt (pw_or (pt_cmpR op_gt (pe_callB call_len_str (by rfl) T.z_len (by first | exact PySem.boot_len | decide +kernel) (pa_cons (pv 0) pa_nil)) (pe_glob (by rfl) T.g_LONGEST_NUMBER T.r_LONGEST_NUMBER) (nomark _)) (pw_or (pt_not (pt_truth (pe_bm0 PySem.F.plainAttrs_str PySem.F.slot_str_isascii PySem.F.type_str_isascii mt_isascii (pv 0)) (fun _ => rfl))) (pw_or1 (pt_not (pt_truth (pe_bm0 PySem.F.plainAttrs_str PySem.F.slot_str_isdigit PySem.F.type_str_isdigit mt_isdigit (pv 0)) (fun _ => rfl))))))) (pss_one (ps_ret pe_non)) pss_nil)
      (pss_cons (ps_set (i := 1) sc_number_of.nd rfl (by first | exact Or.inl rfl | exact Or.inr rfl) (pe_callTy call_int_str (by rfl) T.z_int (by first | exact PySem.boot_int | decide +kernel) (pa_cons (pv 0) pa_nil)))
      (pss_cons (ps_if (PW.pt (pw_or (pt_cmpR op_gt (pv 1) (pe_glob (by rfl) T.g_GREATEST_NUMBER T.r_GREATEST_NUMBER) (nomark _)) (pw_or1 (pt_cmpR op_ne (pe_callTy call_str_int (by rfl) T.z_str (by first | exact PySem.boot_str | decide +kernel) (pa_cons (pv 1) pa_nil)) (pv 0) (nomark _))))) (pss_one (ps_ret pe_non)) pss_nil)
      (pss_one (ps_ret (pv 1)))))), ?_⟩
  have hx0 : x.length = x.cps.toList.length := rfl
  refine ⟨_, rfl, x, rfl, small_le (by omega), _, _, rfl, rfl, _, rfl, ite2 (fun c1 => ?_) (fun c1 => ?_)⟩
  · have c1' : (5 : Int) < (x.length : Int) := of_decide_eq_true c1
    refine q _ (.inr ⟨fun n hn e => ?_, rfl⟩)
    have := TL.numL_len (n := n) (k := 5) (by decide) (by omega)
    rw [← e] at this
    omega
  · refine ⟨_, rfl, rfl, x, rfl, rfl, trivial, _, rfl, ?_⟩
    rw [asc_isascii ha]
    refine iteF ?_
    refine ⟨_, rfl, rfl, x, rfl, rfl, trivial, _, rfl, ite2 (fun c2 => ?_) (fun c2 => ?_)⟩
    · refine q _ (.inr ⟨fun n hn e => ?_, rfl⟩)
      have : Txt.isdigit x = true := (isdigit_iff ha).mpr ⟨by rw [e]; exact TL.numL_digits n, by rw [e]; exact TL.numL_ne n⟩
      rw [this] at c2
      cases c2
    · have hd : Txt.isdigit x = true := by
        cases e : Txt.isdigit x with
        | true => rfl
        | false =>
          rw [e] at c2
          exact absurd rfl c2
      obtain ⟨hd1, hd2⟩ := (isdigit_iff ha).mp hd
      have hv := PySem.intText_digits hd1 hd2 (by omega)
      generalize ev : NumText.digitsVal x.cps.toList = v at hv
      have uniq : ∀ n, x.cps.toList = TL.numL n → n = v := fun n e => by rw [← ev, e, TL.numL_val]
      refine ⟨_, rfl, x, _, rfl, hv, by omega, ?_⟩
      refine ⟨_, rfl, _, _, rfl, rfl, _, rfl, ite2 (fun c3 => ?_) (fun c3 => ?_)⟩
      · have c3' : (65535 : Int) < (v : Int) := of_decide_eq_true c3
        refine q _ (.inr ⟨fun n hn e => ?_, rfl⟩)
        have := uniq n e
        omega
      · have c3' : ¬ (65535 : Int) < (v : Int) := fun z => c3 (decide_eq_true z)
        refine ⟨_, rfl, _, rfl, log_small (Nat.lt_of_le_of_lt (show v ≤ 65535 by omega) (by decide +kernel)), _, rfl, rfl, _, rfl, ite2 (fun c4 => ?_) (fun c4 => ?_)⟩
        · refine q _ (.inr ⟨fun n hn e => ?_, rfl⟩)
          have e1 := uniq n e
          subst e1
          rw [decide_eq_true (congrArg V.str (str_num e))] at c4
          cases c4
        · refine ⟨_, rfl, q _ (.inl ⟨v, by omega, ?_, rfl⟩)⟩
          by_cases y : V.str (Str.ofString (toString ((v : Nat) : Int))) = V.str x
          · exact num_str y
          · exact absurd (by rw [decide_eq_false y]; rfl) c4
/-! ### _law_pool -/
def sp_law_pool (T : Txt K mg) : Sp := fun vs H Q _ => ∃ (a : Addr) (ns : List Int) (b : Int), vs = [.ref a, .int b] ∧ SqL K H a (ns.map V.int) ∧ ∀ (p c : Addr) (H' : Hp), Same H H' → H p = none → H c = none → Pool H' p c b → Q (.ref p) H'

theorem ok_law_pool (T : Txt K mg) : FnOk P w K mg base CX0 1 T.a_law_pool T.d_law_pool ["script", "budget"] (sp_law_pool T) := by
  refine T.F_law_pool.ok sc_law_pool (fun vs H Q E h => ?_) (fun cdv A outer s H vs Q E hr h => ?_)
  · obtain ⟨a, ns, b, rfl, _⟩ := h
    rfl
  obtain ⟨a, ns, b, rfl, hS, q⟩ := h
  refine ⟨_, (pss_one (ps_ret (pe_lst (pa_cons (pe_callTy call_list_of (by rfl) T.z_list (by first | exact PySem.boot_list | decide +kernel) (pa_cons (pv 0) pa_nil)) (pa_cons pe_int (pa_cons pe_int (pa_cons pe_int (pa_cons pe_int (pa_cons (pv 1) pa_nil))))))))), ?_⟩
  refine ⟨_, rfl, a, _, rfl, .inl hS, fun c hc => ⟨_, rfl, by show 6 ≤ sizeLine; decide, fun p hp => ?_⟩⟩
  refine q p c _ (upd2_same hc hp) ((same_upd hc).free hp) hc ⟨ns, 0, 0, 1, 0, upd_same, same_upd hp _ _ upd_same, Int.le_refl 0, fun z => ?_⟩
  rw [z] at hp
  rw [upd_same] at hp
  cases hp
/-! ### _law_draw -/
def sp_law_draw (T : Txt K mg) : Sp := fun vs H Q _ => ∃ (p c : Addr) (n b : Int), vs = [.ref p, .int n] ∧ 0 < n ∧ n < 1073741824 ∧ Pool H p c b ∧ ∀ (k : Int) (H' : Hp), 0 ≤ k → k < n → But p H H' → Pool H' p c b → Q (.int k) H'

theorem ok_law_draw (T : Txt K mg) : FnOk P w K mg base CX0 1 T.a_law_draw T.d_law_draw ["pool", "size"] (sp_law_draw T) := by
  refine T.F_law_draw.ok sc_law_draw (fun vs H Q E h => ?_) (fun cdv A outer s H vs Q E hr h => ?_)
  · obtain ⟨p, c, n, b, rfl, _⟩ := h
    rfl
  obtain ⟨p, c, n, b, rfl, hn, hn2, hP, q⟩ := h
  have hP0 := hP
  obtain ⟨ns, i, r, u, t, hp, hc, hi, hcp⟩ := hP
  refine ⟨_, (C8.pss_cut (ps_if (PW.pt (pw_and (pt_cmpR op_le (pe_ix ix_list (pv 0) pe_int (fun _ _ => rfl)) pe_int (nomark _)) (pw_and (pt_cmpR op_le (pe_ix ix_list (pv 0) pe_int (fun _ _ => rfl)) pe_int (nomark _)) (pw_and1 (pt_cmpR op_lt (pe_ix ix_list (pv 0) pe_int (fun _ _ => rfl)) (pe_callB call_len_seq (by rfl) T.z_len (by first | exact PySem.boot_len | decide +kernel) (pa_cons (pe_ix ix_list (pv 0) pe_int (fun _ _ => rfl)) pa_nil)) (nomark _)))))) (pss_cons (ps_set (i := 2) sc_law_draw.nd rfl (by first | exact Or.inl rfl | exact Or.inr rfl) (pe_ix ix_list (pe_ix ix_list (pv 0) pe_int (fun _ _ => rfl)) (pe_ix ix_list (pv 0) pe_int (fun _ _ => rfl)) (fun _ _ => rfl)))
      (pss_cons (ps_asg (pe_op op_add (pe_ix ix_list (pv 0) pe_int (fun _ _ => rfl)) pe_int) (pg_sub (pv 0) pe_int set_list))
      (pss_cons (ps_asg (pe_op op_mod (pe_callTy call_int1 (by rfl) T.z_int (by first | exact PySem.boot_int | decide +kernel) (pa_cons (pe_op op_add (pe_op op_mul (pe_ix ix_list (pv 0) pe_int (fun _ _ => rfl)) pe_int) (pv 2)) pa_nil)) pe_int) (pg_sub (pv 0) pe_int set_list))
      (pss_cons (ps_asg pe_int (pg_sub (pv 0) pe_int set_list))
      (pss_one (ps_if (pt_cmpR op_ge (pv 2) (pe_op op_pow pe_int pe_int) (nomark _)) (pss_one (ps_asg (pv 2) (pg_sub (pv 0) pe_int set_list))) pss_nil)))))) pss_nil)
      (pss_cons (ps_if (pt_cmpR op_gt (pe_ix ix_list (pv 0) pe_int (fun _ _ => rfl)) pe_int (nomark _)) (pss_cons (ps_set (i := 3) sc_law_draw.nd rfl (by first | exact Or.inl rfl | exact Or.inr rfl) (pe_op op_mod (pe_callTy call_int1 (by rfl) T.z_int (by first | exact PySem.boot_int | decide +kernel) (pa_cons (pe_ix ix_list (pv 0) pe_int (fun _ _ => rfl)) pa_nil)) (pv 1)))
      (pss_cons (ps_asg (pe_op op_fdiv (pe_ix ix_list (pv 0) pe_int (fun _ _ => rfl)) (pv 1)) (pg_sub (pv 0) pe_int set_list))
      (pss_cons (ps_asg pe_int (pg_sub (pv 0) pe_int set_list))
      (pss_one (ps_ret (pv 3)))))) pss_nil)
      (pss_cons (ps_asg (pe_op op_sub (pe_ix ix_list (pv 0) pe_int (fun _ _ => rfl)) pe_int) (pg_sub (pv 0) pe_int set_list))
      (pss_cons (ps_asg (pe_op op_mod (pe_callTy call_int1 (by rfl) T.z_int (by first | exact PySem.boot_int | decide +kernel) (pa_cons (pe_op op_add (pe_op op_mul (pe_ix ix_list (pv 0) pe_int (fun _ _ => rfl)) pe_int) pe_int) pa_nil)) pe_int) (pg_sub (pv 0) pe_int set_list))
      (pss_one (ps_ret (pe_op op_mod (pe_op op_mod (pe_callTy call_int1 (by rfl) T.z_int (by first | exact PySem.boot_int | decide +kernel) (pa_cons (pe_op op_add (pe_op op_mul (pe_ix ix_list (pv 0) pe_int (fun _ _ => rfl)) pe_int) pe_int) pa_nil)) pe_int) (pv 1)))))))), ?_⟩
  let ps : Int → Int → Int → Int → List V := fun i r u t => [.ref c, .int i, .int r, .int u, .int t, .int b]
  have at0 : ∀ i r u t, atI (ps i r u t) 0 = some (.ref c) := fun _ _ _ _ => atI_nat (j := 0) rfl
  have at1 : ∀ i r u t, atI (ps i r u t) 1 = some (.int i) := fun _ _ _ _ => atI_nat (j := 1) rfl
  have at2 : ∀ i r u t, atI (ps i r u t) 2 = some (.int r) := fun _ _ _ _ => atI_nat (j := 2) rfl
  have at3 : ∀ i r u t, atI (ps i r u t) 3 = some (.int u) := fun _ _ _ _ => atI_nat (j := 3) rfl
  have at4 : ∀ i r u t, atI (ps i r u t) 4 = some (.int t) := fun _ _ _ _ => atI_nat (j := 4) rfl
  refine ⟨fun σ' H' => ∃ y i r u t, σ' = [some (.ref p), some (.int n), y, none] ∧ But p H H' ∧ H' p = some (.lst (ps i r u t)) ∧ 0 ≤ i, ?_, ?_⟩
  · refine ⟨_, rfl, p, _, 2, .int r, rfl, rfl, SqL.of hp, at2 _ _ _ _, _, _, rfl, rfl, _, rfl, ite2 (fun _ => ?_) (fun _ => ⟨none, i, r, u, t, rfl, But.refl _ _, hp, hi⟩)⟩
    refine ⟨_, rfl, p, _, 4, .int t, rfl, rfl, SqL.of hp, at4 _ _ _ _, _, _, rfl, rfl, _, rfl, ite2 (fun _ => ?_) (fun _ => ⟨none, i, r, u, t, rfl, But.refl _ _, hp, hi⟩)⟩
    refine ⟨_, rfl, p, _, 1, .int i, rfl, rfl, SqL.of hp, at1 _ _ _ _, _, rfl, p, _, 0, .ref c, rfl, rfl, SqL.of hp, at0 _ _ _ _, c, _, rfl, .inl (SqL.of hc), _, _, rfl, rfl, _, rfl, ite2 (fun c3 => ?_) (fun _ => ⟨none, i, r, u, t, rfl, But.refl _ _, hp, hi⟩)⟩
    have c3' : i < (((ns.map V.int).length : Nat) : Int) := of_decide_eq_true c3
    rw [List.length_map] at c3'
    have hlt : i.toNat < ns.length := by omega
    have gi : (ns.map V.int)[i.toNat]? = some (.int ns[i.toNat]) := by rw [List.getElem?_map, List.getElem?_eq_getElem hlt]; rfl
    -- cell = pool[0][pool[1]]
    refine ⟨_, rfl, p, _, 0, .ref c, rfl, rfl, SqL.of hp, at0 _ _ _ _, _, rfl, p, _, 1, .int i, rfl, rfl, SqL.of hp, at1 _ _ _ _, c, _, i, _, rfl, rfl, SqL.of hc, at_of (j := i.toNat) (by omega) gi, ?_⟩
    generalize ns[i.toNat] = z
    -- pool[1] = pool[1] + 1; pool[3] = ..; pool[4] = 7
    refine ⟨_, rfl, p, _, 1, .int i, rfl, rfl, SqL.of hp, at1 _ _ _ _, _, _, rfl, rfl, _, rfl, p, _, 1, 1, rfl, rfl, hp, rfl, ?_⟩
    refine ⟨_, rfl, p, ps (i + 1) r u t, 3, .int u, rfl, rfl, SqL.of upd_same, at3 _ _ _ _, _, _, rfl, rfl, .inr ⟨by decide, by decide⟩, _, rfl, _, _, rfl, rfl, .inl ⟨_, rfl, _, _, rfl, rfl, by show (0 : Int) < 2147483647; decide, _, rfl, p, ps (i + 1) r u t, 3, 3, rfl, rfl, upd_same, rfl, ?_⟩⟩
    rw [upd_upd]
    refine ⟨_, rfl, p, ps (i + 1) r ((u * 31 + z) % 2147483647) t, 4, 4, rfl, rfl, upd_same, rfl, ?_⟩
    rw [upd_upd]
    -- if cell >= 10 ** 18: pool[2] = cell
    refine ⟨_, rfl, _, _, rfl, rfl, ⟨by decide, by decide, by decide⟩, _, _, rfl, rfl, _, rfl, ite2 (fun _ => ?_) (fun _ => ?_)⟩
    · refine ⟨_, rfl, _, rfl, p, ps (i + 1) r ((u * 31 + z) % 2147483647) 7, 2, 2, rfl, rfl, upd_same, rfl, ?_⟩
      rw [upd_upd]
      exact ⟨_, i + 1, z, _, 7, rfl, but_upd, upd_same, by omega⟩
    · exact ⟨_, i + 1, r, _, 7, rfl, but_upd, upd_same, by omega⟩
  clear hp hi at0
  rintro σ1 H1 ⟨y, i, r, u, t, rfl, b1, hp, hi⟩
  have hc1 : H1 c = some (.lst (ns.map V.int)) := b1 _ _ hcp hc
  refine ⟨_, rfl, p, _, 2, .int r, rfl, rfl, SqL.of hp, at2 _ _ _ _, _, _, rfl, rfl, _, rfl, ite2 (fun _ => ?_) (fun _ => ?_)⟩
  · -- a large cell is used up
    refine ⟨_, rfl, p, _, 2, .int r, rfl, rfl, SqL.of hp, at2 _ _ _ _, .inl ⟨_, rfl, _, rfl, _, _, rfl, rfl, hn, ?_⟩⟩
    refine ⟨_, rfl, p, _, 2, .int r, rfl, rfl, SqL.of hp, at2 _ _ _ _, _, rfl, _, _, rfl, rfl, ⟨hn, hn2⟩, _, rfl, p, _, 2, 2, rfl, rfl, hp, rfl, ?_⟩
    refine ⟨_, rfl, p, ps i (r / n) u t, 4, 4, rfl, rfl, upd_same, rfl, ?_⟩
    rw [upd_upd]
    refine ⟨_, rfl, q _ _ (Int.emod_nonneg _ (by omega)) (Int.emod_lt_of_pos _ hn) (b1.trans but_upd) ⟨ns, i, r / n, u, 0, upd_same, ?_, hi, hcp⟩⟩
    rw [upd_ne hcp]
    exact hc1
  · refine ⟨_, rfl, p, _, 4, .int t, rfl, rfl, SqL.of hp, at4 _ _ _ _, _, _, rfl, rfl, _, rfl, p, _, 4, 4, rfl, rfl, hp, rfl, ?_⟩
    refine ⟨_, rfl, p, ps i r u (t - 1), 3, .int u, rfl, rfl, SqL.of upd_same, at3 _ _ _ _, _, _, rfl, rfl, .inr ⟨by decide, by decide⟩, _, _, rfl, rfl, .inl ⟨_, rfl, _, _, rfl, rfl, by show (0 : Int) < 2147483647; decide, _, rfl, p, ps i r u (t - 1), 3, 3, rfl, rfl, upd_same, rfl, ?_⟩⟩
    rw [upd_upd]
    refine ⟨_, rfl, p, ps i r ((u * 48271 + 12345) % 2147483647) (t - 1), 3, _, rfl, rfl, SqL.of upd_same, at3 _ _ _ _, _, _, rfl, rfl, .inr ⟨by decide, by decide⟩, _, _, rfl, rfl, .inl ⟨_, rfl, _, _, rfl, rfl, by show (0 : Int) < 2147483647; decide, _, rfl, _, _, rfl, rfl, hn, ?_⟩⟩
    refine q _ _ (Int.emod_nonneg _ (by omega)) (Int.emod_lt_of_pos _ hn) (b1.trans but_upd) ⟨ns, i, r, _, t - 1, upd_same, ?_, hi, hcp⟩
    rw [upd_ne hcp]
    exact hc1
/-! ### _law_same -/
def sp_law_same (T : Txt K mg) (n : Nat) : Sp := fun vs H Q _ => ∃ (x y : V) (d : PyData), vs = [x, y] ∧ Da H x d ∧ Da H y d ∧ d.depth < n ∧ wide d = true ∧ Q (.bl true) H
theorem no_law_same (T : Txt K mg) : ∀ vs H Q E, ¬ sp_law_same T 0 vs H Q E := fun vs H Q E ⟨_, _, _, _, _, _, h, _⟩ => Nat.not_lt_zero _ h

theorem step_law_same (T : Txt K mg) {n : Nat} (G : FnOk P w K mg base CX0 (0 + n) T.a_law_same T.d_law_same ["actual", "due"] (sp_law_same T n)) : FnOk P w K mg base CX0 (0 + n + 1) T.a_law_same T.d_law_same ["actual", "due"] (sp_law_same T (n + 1)) := by
  refine T.F_law_same.ok sc_law_same (fun vs H Q E h => ?_) (fun cdv A outer s H vs Q E hr h => ?_)
  · obtain ⟨x, y, d, rfl, _⟩ := h
    rfl
  obtain ⟨x, y, d, rfl, hx, hy, hd, hw, q⟩ := h
  refine ⟨_, (pss_cons (ps_if (PW.pt (pw_or (pt_truth (pe_callB call_isi (by rfl) T.z_isinstance (by first | exact PySem.boot_isinstance | decide +kernel) (pa_cons (pv 1) (pa_cons (pe_bltn (v := .ty "tuple") (by rfl) T.z_tuple (by decide +kernel) rfl) pa_nil))) (fun _ => rfl)) (pw_or1 (pt_truth (pe_callB call_isi (by rfl) T.z_isinstance (by first | exact PySem.boot_isinstance | decide +kernel) (pa_cons (pv 1) (pa_cons (pe_bltn (v := .ty "list") (by rfl) T.z_list (by decide +kernel) rfl) pa_nil))) (fun _ => rfl))))) (pss_cons (ps_if (PW.pt (pw_or (pt_cmpR op_ne (pe_callB call_isi (by rfl) T.z_isinstance (by first | exact PySem.boot_isinstance | decide +kernel) (pa_cons (pv 1) (pa_cons (pe_bltn (v := .ty "tuple") (by rfl) T.z_tuple (by decide +kernel) rfl) pa_nil))) (pe_callB call_isi (by rfl) T.z_isinstance (by first | exact PySem.boot_isinstance | decide +kernel) (pa_cons (pv 0) (pa_cons (pe_bltn (v := .ty "tuple") (by rfl) T.z_tuple (by decide +kernel) rfl) pa_nil))) (nomark _)) (pw_or1 (pt_cmpR op_ne (pe_callB call_isi (by rfl) T.z_isinstance (by first | exact PySem.boot_isinstance | decide +kernel) (pa_cons (pv 1) (pa_cons (pe_bltn (v := .ty "list") (by rfl) T.z_list (by decide +kernel) rfl) pa_nil))) (pe_callB call_isi (by rfl) T.z_isinstance (by first | exact PySem.boot_isinstance | decide +kernel) (pa_cons (pv 0) (pa_cons (pe_bltn (v := .ty "list") (by rfl) T.z_list (by decide +kernel) rfl) pa_nil))) (nomark _))))) (pss_one (ps_ret pe_bl)) pss_nil)
      (pss_cons (ps_if (pt_cmpR op_ne (pe_callB call_len_seq (by rfl) T.z_len (by first | exact PySem.boot_len | decide +kernel) (pa_cons (pv 0) pa_nil)) (pe_callB call_len_seq (by rfl) T.z_len (by first | exact PySem.boot_len | decide +kernel) (pa_cons (pv 1) pa_nil)) (nomark _)) (pss_one (ps_ret pe_bl)) pss_nil)
      (pss_cons (ps_for PassesOwn.never rfl (pi_range1 (by rfl) T.z_range (pa_cons (pe_callB call_len_seq (by rfl) T.z_len (by first | exact PySem.boot_len | decide +kernel) (pa_cons (pv 1) pa_nil)) pa_nil)) (pg_name (i := 2) sc_law_same.nd rfl (by first | exact Or.inl rfl | exact Or.inr rfl)) (pss_one (ps_if (pt_not (pt_truth (pe_call G hr (by rfl) T.m_law_same T.F_law_same.kp T.b_law_same .nil pass0 (pa_cons (pe_ix (IxR.or ix_list ix_tup) (pv 0) (pv 2) (fun _ _ => rfl)) (pa_cons (pe_ix (IxR.or ix_list ix_tup) (pv 1) (pv 2) (fun _ _ => rfl)) pa_nil))) (fun _ => rfl))) (pss_one (ps_ret pe_bl)) pss_nil)))
      (pss_one (ps_ret pe_bl))))) pss_nil)
      (pss_cons (ps_if (PW.pt (pw_or (pt_cmpR op_isN (pv 1) pe_non (nomark _)) (pw_or1 (pt_truth (pe_callB call_isi (by rfl) T.z_isinstance (by first | exact PySem.boot_isinstance | decide +kernel) (pa_cons (pv 1) (pa_cons (pe_bltn (v := .ty "bool") (by rfl) T.z_bool (by decide +kernel) rfl) pa_nil))) (fun _ => rfl))))) (pss_one (ps_ret (pe_and (pe_cmpR op_eq (pe_cmpR op_isN (pv 0) pe_non (nomark _)) (pe_cmpR op_isN (pv 1) pe_non (nomark _)) (nomark _)) (pe_and (pe_or (pe_cmpR op_isN (pv 1) pe_non (nomark _)) (pe_one (pe_callB call_isi (by rfl) T.z_isinstance (by first | exact PySem.boot_isinstance | decide +kernel) (pa_cons (pv 0) (pa_cons (pe_bltn (v := .ty "bool") (by rfl) T.z_bool (by decide +kernel) rfl) pa_nil))))) (pe_one (pe_cmpR op_eq (pv 0) (pv 1) (nomark _))))))) pss_nil)
      (pss_cons (ps_if (pt_truth (pe_callB call_isi (by rfl) T.z_isinstance (by first | exact PySem.boot_isinstance | decide +kernel) (pa_cons (pv 1) (pa_cons (pe_bltn (v := .ty "int") (by rfl) T.z_int (by decide +kernel) rfl) pa_nil))) (fun _ => rfl)) (pss_one (ps_ret (pe_and (pe_callB call_isi (by rfl) T.z_isinstance (by first | exact PySem.boot_isinstance | decide +kernel) (pa_cons (pv 0) (pa_cons (pe_bltn (v := .ty "int") (by rfl) T.z_int (by decide +kernel) rfl) pa_nil))) (pe_and (pe_not (pe_callB call_isi (by rfl) T.z_isinstance (by first | exact PySem.boot_isinstance | decide +kernel) (pa_cons (pv 0) (pa_cons (pe_bltn (v := .ty "bool") (by rfl) T.z_bool (by decide +kernel) rfl) pa_nil)))) (pe_one (pe_cmpR op_eq (pv 0) (pv 1) (nomark _))))))) pss_nil)
      (pss_one (ps_ret (pe_and (pe_callB call_isi (by rfl) T.z_isinstance (by first | exact PySem.boot_isinstance | decide +kernel) (pa_cons (pv 0) (pa_cons (pe_bltn (v := .ty "str") (by rfl) T.z_str (by decide +kernel) rfl) pa_nil))) (pe_one (pe_cmpR op_eq (pv 0) (pv 1) (nomark _))))))))), ?_⟩
  cases d with
  | dict kvs => cases hx
  | none =>
    cases hx
    cases hy
    refine ⟨_, rfl, .non, .ty "tuple", .type "NoneType", .type "tuple", false, rfl, .ty _, .base .non, kit_ty (by decide +kernel), false, rfl, ?_⟩
    refine ⟨_, rfl, .non, .ty "list", .type "NoneType", .type "list", false, rfl, .ty _, .base .non, kit_ty (by decide +kernel), false, rfl, ?_⟩
    refine ⟨_, rfl, rfl, _, rfl, ?_⟩
    refine ⟨_, rfl, rfl, _, rfl, rfl, rfl, _, rfl, ?_⟩
    refine ⟨_, rfl, rfl, _, rfl, ?_⟩
    exact ⟨_, rfl, _, rfl, _, rfl, rfl, q⟩
  | bool b =>
    cases hx
    cases hy
    refine ⟨_, rfl, .bl b, .ty "tuple", .type "bool", .type "tuple", false, rfl, .ty _, .base (.bl b), kit_ty (by decide +kernel), false, rfl, ?_⟩
    refine ⟨_, rfl, .bl b, .ty "list", .type "bool", .type "list", false, rfl, .ty _, .base (.bl b), kit_ty (by decide +kernel), false, rfl, ?_⟩
    refine ⟨_, rfl, rfl, _, rfl, ?_⟩
    refine ⟨_, rfl, .bl b, .ty "bool", .type "bool", .type "bool", true, rfl, .ty _, .base (.bl b), kit_ty (by decide +kernel), true, rfl, ?_⟩
    refine ⟨_, rfl, rfl, _, rfl, rfl, rfl, _, rfl, ?_⟩
    refine ⟨_, rfl, rfl, _, rfl, ?_⟩
    refine ⟨_, rfl, .bl b, .ty "bool", .type "bool", .type "bool", true, rfl, .ty _, .base (.bl b), kit_ty (by decide +kernel), _, rfl, ?_⟩
    refine ⟨_, rfl, _, rfl, rfl, ?_⟩
    show Q (.bl (decide (V.bl b = V.bl b))) _
    rw [decide_eq_true rfl]
    exact q
  | int i =>
    cases hx
    cases hy
    refine ⟨_, rfl, .int i, .ty "tuple", .type "int", .type "tuple", false, rfl, .ty _, .base (.int i), kit_ty (by decide +kernel), false, rfl, ?_⟩
    refine ⟨_, rfl, .int i, .ty "list", .type "int", .type "list", false, rfl, .ty _, .base (.int i), kit_ty (by decide +kernel), false, rfl, ?_⟩
    refine ⟨_, rfl, rfl, _, rfl, ?_⟩
    refine ⟨_, rfl, .int i, .ty "bool", .type "int", .type "bool", false, rfl, .ty _, .base (.int i), kit_ty (by decide +kernel), false, rfl, ?_⟩
    refine ⟨_, rfl, .int i, .ty "int", .type "int", .type "int", true, rfl, .ty _, .base (.int i), kit_ty (by decide +kernel), true, rfl, ?_⟩
    refine ⟨_, rfl, .int i, .ty "int", .type "int", .type "int", true, rfl, .ty _, .base (.int i), kit_ty (by decide +kernel), _, rfl, ?_⟩
    refine ⟨_, rfl, .int i, .ty "bool", .type "int", .type "bool", false, rfl, .ty _, .base (.int i), kit_ty (by decide +kernel), _, rfl, _, rfl, ?_⟩
    refine ⟨_, rfl, _, rfl, rfl, ?_⟩
    show Q (.bl (decide (V.int i = V.int i))) _
    rw [decide_eq_true rfl]
    exact q
  | str x =>
    cases hx
    cases hy
    refine ⟨_, rfl, .str x, .ty "tuple", .type "str", .type "tuple", false, rfl, .ty _, .base (.str x), kit_ty (by decide +kernel), false, rfl, ?_⟩
    refine ⟨_, rfl, .str x, .ty "list", .type "str", .type "list", false, rfl, .ty _, .base (.str x), kit_ty (by decide +kernel), false, rfl, ?_⟩
    refine ⟨_, rfl, rfl, _, rfl, ?_⟩
    refine ⟨_, rfl, .str x, .ty "bool", .type "str", .type "bool", false, rfl, .ty _, .base (.str x), kit_ty (by decide +kernel), false, rfl, ?_⟩
    refine ⟨_, rfl, .str x, .ty "int", .type "str", .type "int", false, rfl, .ty _, .base (.str x), kit_ty (by decide +kernel), false, rfl, ?_⟩
    refine ⟨_, rfl, .str x, .ty "str", .type "str", .type "str", true, rfl, .ty _, .base (.str x), kit_ty (by decide +kernel), _, rfl, ?_⟩
    refine ⟨_, rfl, _, rfl, rfl, ?_⟩
    show Q (.bl (decide (V.str x = V.str x))) _
    rw [decide_eq_true rfl]
    exact q
  | tuple ds =>
    cases hx with
    | @tup px xs _ hpx lx ex =>
    cases hy with
    | @tup py ys _ hpy ly ey =>
    simp only [wide, Bool.and_eq_true, decide_eq_true_eq] at hw
    have hl : ((xs.length : Nat) : Int) = ((ys.length : Nat) : Int) := by rw [lx, ly]
    refine ⟨_, rfl, .ref py, .ty "tuple", .type "tuple", .type "tuple", true, rfl, .ty _, .base (.tup hpy), kit_ty (by decide +kernel), true, rfl, ?_⟩
    refine ⟨_, rfl, .ref py, .ty "tuple", .type "tuple", .type "tuple", true, rfl, .ty _, .base (.tup hpy), kit_ty (by decide +kernel), _, rfl, .ref px, .ty "tuple", .type "tuple", .type "tuple", true, rfl, .ty _, .base (.tup hpx), kit_ty (by decide +kernel), rfl, _, rfl, ?_⟩
    refine ⟨_, rfl, .ref py, .ty "list", .type "tuple", .type "list", false, rfl, .ty _, .base (.tup hpy), kit_ty (by decide +kernel), _, rfl, .ref px, .ty "list", .type "tuple", .type "list", false, rfl, .ty _, .base (.tup hpx), kit_ty (by decide +kernel), rfl, _, rfl, ?_⟩
    refine ⟨_, rfl, px, xs, rfl, .inr (SqT.of hpx), _, rfl, py, ys, rfl, .inr (SqT.of hpy), rfl, _, rfl, iteNS (congrArg V.int hl) ?_⟩
    refine ⟨_, rfl, py, ys, rfl, .inr (SqT.of hpy), _, rfl, by omega, by omega, for_range (fun i σ' H' => ∃ yk, σ' = [some (.ref px), some (.ref py), yk] ∧ H' = H) ⟨_, rfl, rfl⟩ ?_ ?_⟩
    · rintro i σ1 H1 hi ⟨yk, rfl, rfl⟩
      have hi2 : i < ds.length := by rw [← ly]; exact hi
      have gd : ds[i]? = some ds[i] := List.getElem?_eq_getElem hi2
      have gx : xs[i]? = some xs[i] := List.getElem?_eq_getElem (by rw [lx]; exact hi2)
      have gy : ys[i]? = some ys[i] := List.getElem?_eq_getElem (by rw [ly]; exact hi2)
      have e0 : (0 : Int) + (i : Int) = ((i : Nat) : Int) := Int.zero_add _
      refine ⟨_, rfl, _, rfl, .inr ⟨px, xs, _, _, rfl, rfl, SqT.of hpx, at_of e0 gx, _, rfl, _, rfl, .inr ⟨py, ys, _, _, rfl, rfl, SqT.of hpy, at_of e0 gy, xs[i], ys[i], ds[i], rfl, ex i _ _ gx gd, ey i _ _ gy gd, ?_, wide_get hw.2 gd, true, rfl, _, rfl, rfl⟩⟩⟩
      have dg := depth_get gd
      simp only [PyData.depth] at hd
      omega
    · rintro σ1 H1 ⟨yk, rfl, rfl⟩
      exact q
  | list ds =>
    cases hx with
    | @lst px xs _ hpx lx ex =>
    cases hy with
    | @lst py ys _ hpy ly ey =>
    simp only [wide, Bool.and_eq_true, decide_eq_true_eq] at hw
    have hl : ((xs.length : Nat) : Int) = ((ys.length : Nat) : Int) := by rw [lx, ly]
    refine ⟨_, rfl, .ref py, .ty "tuple", .type "list", .type "tuple", false, rfl, .ty _, .base (.lst hpy), kit_ty (by decide +kernel), false, rfl, ?_⟩
    refine ⟨_, rfl, .ref py, .ty "list", .type "list", .type "list", true, rfl, .ty _, .base (.lst hpy), kit_ty (by decide +kernel), true, rfl, ?_⟩
    refine ⟨_, rfl, .ref py, .ty "tuple", .type "list", .type "tuple", false, rfl, .ty _, .base (.lst hpy), kit_ty (by decide +kernel), _, rfl, .ref px, .ty "tuple", .type "list", .type "tuple", false, rfl, .ty _, .base (.lst hpx), kit_ty (by decide +kernel), rfl, _, rfl, ?_⟩
    refine ⟨_, rfl, .ref py, .ty "list", .type "list", .type "list", true, rfl, .ty _, .base (.lst hpy), kit_ty (by decide +kernel), _, rfl, .ref px, .ty "list", .type "list", .type "list", true, rfl, .ty _, .base (.lst hpx), kit_ty (by decide +kernel), rfl, _, rfl, ?_⟩
    refine ⟨_, rfl, px, xs, rfl, .inl (SqL.of hpx), _, rfl, py, ys, rfl, .inl (SqL.of hpy), rfl, _, rfl, iteNS (congrArg V.int hl) ?_⟩
    refine ⟨_, rfl, py, ys, rfl, .inl (SqL.of hpy), _, rfl, by omega, by omega, for_range (fun i σ' H' => ∃ yk, σ' = [some (.ref px), some (.ref py), yk] ∧ H' = H) ⟨_, rfl, rfl⟩ ?_ ?_⟩
    · rintro i σ1 H1 hi ⟨yk, rfl, rfl⟩
      have hi2 : i < ds.length := by rw [← ly]; exact hi
      have gd : ds[i]? = some ds[i] := List.getElem?_eq_getElem hi2
      have gx : xs[i]? = some xs[i] := List.getElem?_eq_getElem (by rw [lx]; exact hi2)
      have gy : ys[i]? = some ys[i] := List.getElem?_eq_getElem (by rw [ly]; exact hi2)
      have e0 : (0 : Int) + (i : Int) = ((i : Nat) : Int) := Int.zero_add _
      refine ⟨_, rfl, _, rfl, .inl ⟨px, xs, _, _, rfl, rfl, SqL.of hpx, at_of e0 gx, _, rfl, _, rfl, .inl ⟨py, ys, _, _, rfl, rfl, SqL.of hpy, at_of e0 gy, xs[i], ys[i], ds[i], rfl, ex i _ _ gx gd, ey i _ _ gy gd, ?_, wide_get hw.2 gd, true, rfl, _, rfl, rfl⟩⟩⟩
      have dg := depth_get gd
      simp only [PyData.depth] at hd
      omega
    · rintro σ1 H1 ⟨yk, rfl, rfl⟩
      exact q
theorem ok_law_same (T : Txt K mg) : ∀ n, FnOk P w K mg base CX0 (0 + n) T.a_law_same T.d_law_same ["actual", "due"] (sp_law_same T n)
  | 0 => ⟨fun vs H Q E h => absurd h (no_law_same T vs H Q E), fun A outer s H args us vs Q E _ _ _ _ h => absurd h (no_law_same T vs H Q E)⟩
  | n + 1 => step_law_same T (ok_law_same T n)
/-! ### _law_keys -/
def sp_law_keys (T : Txt K mg) : Sp := fun vs H Q _ => vs = [] ∧ ∀ (p : Addr) (H' : Hp), Same H H' → H p = none → H' p = some (.lst keyV) → Q (.ref p) H'

theorem ok_law_keys (T : Txt K mg) : FnOk P w K mg base CX0 1 T.a_law_keys T.d_law_keys [] (sp_law_keys T) := by
  refine T.F_law_keys.ok sc_law_keys (fun vs H Q E h => ?_) (fun cdv A outer s H vs Q E hr h => ?_)
  · obtain ⟨rfl, _⟩ := h
    rfl
  obtain ⟨rfl, q⟩ := h
  refine ⟨_, (pss_cons (ps_set (i := 0) sc_law_keys.nd rfl (by first | exact Or.inl rfl | exact Or.inr rfl) pe_str)
      (pss_one (ps_ret (pe_bm PySem.F.plainAttrs_str PySem.F.slot_str_split PySem.F.type_str_split mt_split (pe_op op_add_str (pv 0) pe_str) (pa_cons pe_str pa_nil))))), ?_⟩
  refine ⟨_, rfl, _, _, rfl, rfl, by decide +kernel, rfl, _, _, rfl, rfl, by decide +kernel, by decide +kernel, fun p hp => ?_⟩
  refine q p _ (same_upd hp) hp ?_
  rw [upd_same, key_split]
  rfl
/-! ### _law_word -/
def sp_law_word (T : Txt K mg) : Sp := fun vs H Q _ => ∃ (p c : Addr) (b : Int), vs = [.ref p] ∧ Pool H p c b ∧ ∀ (x : Str) (H' : Hp), Asc x → x.length ≤ 40 → Q (.str x) H'

theorem ok_law_word (T : Txt K mg) : FnOk P w K mg base CX0 2 T.a_law_word T.d_law_word ["pool"] (sp_law_word T) := by
  refine T.F_law_word.ok sc_law_word (fun vs H Q E h => ?_) (fun cdv A outer s H vs Q E hr h => ?_)
  · obtain ⟨p, c, b, rfl, _⟩ := h
    rfl
  obtain ⟨p, c, b, rfl, hP, q⟩ := h
  refine ⟨_, (pss_cons (ps_set (i := 1) sc_law_word.nd rfl (by first | exact Or.inl rfl | exact Or.inr rfl) (pe_call (ok_law_draw T) (hr.mono (by decide)) (by rfl) T.m_law_draw T.F_law_draw.kp T.b_law_draw .nil pass0 (pa_cons (pv 0) (pa_cons pe_int pa_nil))))
      (pss_cons (ps_if (pt_cmpR op_eq (pv 1) pe_int (nomark _)) (pss_cons (ps_set (i := 2) sc_law_word.nd rfl (by first | exact Or.inl rfl | exact Or.inr rfl) (pe_ix ix_list (pe_call0 (ok_law_keys T) (hr.mono (by decide)) (by rfl) T.m_law_keys T.F_law_keys.kp T.b_law_keys .nil pass0) (pe_call (ok_law_draw T) (hr.mono (by decide)) (by rfl) T.m_law_draw T.F_law_draw.kp T.b_law_draw .nil pass0 (pa_cons (pv 0) (pa_cons pe_int pa_nil))) (fun _ _ => rfl)))
      (pss_one (ps_ret (pe_op op_add_str (pv 2) (pe_ix ix_tup (pe_tup (pa_cons pe_str (pa_cons pe_str (pa_cons pe_str (pa_cons pe_str pa_nil))))) (pe_call (ok_law_draw T) (hr.mono (by decide)) (by rfl) T.m_law_draw T.F_law_draw.kp T.b_law_draw .nil pass0 (pa_cons (pv 0) (pa_cons pe_int pa_nil))) (fun _ _ => rfl)))))) pss_nil)
      (pss_cons (ps_if (pt_cmpR op_eq (pv 1) pe_int (nomark _)) (pss_cons (ps_set (i := 3) sc_law_word.nd rfl (by first | exact Or.inl rfl | exact Or.inr rfl) (pe_call (ok_law_draw T) (hr.mono (by decide)) (by rfl) T.m_law_draw T.F_law_draw.kp T.b_law_draw .nil pass0 (pa_cons (pv 0) (pa_cons pe_int pa_nil))))
      (C8.pss_cut (ps_if (pt_cmpR op_eq (pe_call (ok_law_draw T) (hr.mono (by decide)) (by rfl) T.m_law_draw T.F_law_draw.kp T.b_law_draw .nil pass0 (pa_cons (pv 0) (pa_cons pe_int pa_nil))) pe_int (nomark _)) (pss_one (ps_set (i := 3) sc_law_word.nd rfl (by first | exact Or.inl rfl | exact Or.inr rfl) (pe_op op_add pe_int (pe_call (ok_law_draw T) (hr.mono (by decide)) (by rfl) T.m_law_draw T.F_law_draw.kp T.b_law_draw .nil pass0 (pa_cons (pv 0) (pa_cons pe_int pa_nil)))))) pss_nil)
      (pss_one (ps_ret (pe_op op_add_str (pe_ix ix_tup (pe_tup (pa_cons pe_str (pa_cons pe_str (pa_cons pe_str (pa_cons pe_str pa_nil))))) (pe_call (ok_law_draw T) (hr.mono (by decide)) (by rfl) T.m_law_draw T.F_law_draw.kp T.b_law_draw .nil pass0 (pa_cons (pv 0) (pa_cons pe_int pa_nil))) (fun _ _ => rfl)) (pe_callTy call_str_int (by rfl) T.z_str (by first | exact PySem.boot_str | decide +kernel) (pa_cons (pv 3) pa_nil))))))) pss_nil)
      (pss_cons (ps_set (i := 4) sc_law_word.nd rfl (by first | exact Or.inl rfl | exact Or.inr rfl) pe_str)
      (pss_cons (ps_set (i := 5) sc_law_word.nd rfl (by first | exact Or.inl rfl | exact Or.inr rfl) (pe_call (ok_law_draw T) (hr.mono (by decide)) (by rfl) T.m_law_draw T.F_law_draw.kp T.b_law_draw .nil pass0 (pa_cons (pv 0) (pa_cons pe_int pa_nil))))
      (pss_cons (ps_set (i := 2) sc_law_word.nd rfl (by first | exact Or.inl rfl | exact Or.inr rfl) (pe_bm PySem.F.plainAttrs_str PySem.F.slot_str_join PySem.F.type_str_join mt_join pe_str (pa_cons (pe_lc (own := [("k", 8)]) (g := gName 8) (tt := tYes) rfl sc_law_word.nd (pi_range1 (by rfl) T.z_range (pa_cons (pv 5) pa_nil)) (blkOk_by (N := N_law_word) (sc := defScope s_law_word) (by decide +kernel)) (fun _ _ _ _ _ => (pg_name (i := 8) sc_law_word.nd rfl (by first | exact Or.inl rfl | exact Or.inr rfl))) (fun _ _ _ _ _ => pts_nil) (fun _ _ _ _ _ => (pe_ix ix_str (pv 4) (pe_call (ok_law_draw T) (hr.mono (by decide)) (by rfl) T.m_law_draw T.F_law_draw.kp T.b_law_draw .nil pass0 (pa_cons (pv 0) (pa_cons pe_int pa_nil))) (fun _ _ => rfl)))) pa_nil)))
      (C8.pss_cut (ps_if (pt_cmpR op_eq (pe_call (ok_law_draw T) (hr.mono (by decide)) (by rfl) T.m_law_draw T.F_law_draw.kp T.b_law_draw .nil pass0 (pa_cons (pv 0) (pa_cons pe_int pa_nil))) pe_int (nomark _)) (pss_cons (ps_set (i := 6) sc_law_word.nd rfl (by first | exact Or.inl rfl | exact Or.inr rfl) (pe_call (ok_law_draw T) (hr.mono (by decide)) (by rfl) T.m_law_draw T.F_law_draw.kp T.b_law_draw .nil pass0 (pa_cons (pv 0) (pa_cons (pe_op op_add (pv 5) pe_int) pa_nil))))
      (pss_cons (ps_set (i := 7) sc_law_word.nd rfl (by first | exact Or.inl rfl | exact Or.inr rfl) pe_str)
      (pss_one (ps_ret (pe_op op_add_str (pe_op op_add_str (pe_slice sl_str (pv 2) po_none (po_some (pv 6))) (pe_ix ix_str (pv 7) (pe_call (ok_law_draw T) (hr.mono (by decide)) (by rfl) T.m_law_draw T.F_law_draw.kp T.b_law_draw .nil pass0 (pa_cons (pv 0) (pa_cons (pe_callB call_len_str (by rfl) T.z_len (by first | exact PySem.boot_len | decide +kernel) (pa_cons (pv 7) pa_nil)) pa_nil))) (fun _ _ => rfl))) (pe_slice sl_str (pv 2) (po_some (pv 6)) po_none)))))) pss_nil)
      (pss_one (ps_ret (pv 2)))))))))), ?_⟩
  refine ⟨_, rfl, p, c, 4, b, rfl, by decide, by decide, hP, fun k H1 h0 h1 b1 P1 => ?_⟩
  refine ⟨_, rfl, rfl, _, rfl, ite2 (fun _ => ?_) (fun _ => ?_)⟩
  · refine ⟨rfl, fun pk H2 s2 n2 e2 => ?_⟩
    refine ⟨_, rfl, p, c, 26, b, rfl, by decide, by decide, P1.same s2, fun j H3 j0 j1 b3 P3 => ?_⟩
    obtain ⟨w1, m1, a1⟩ := pick (ss := keyL) j0 j1
    obtain ⟨x1, l1⟩ := asc_of (n := 8) (ss := keyL) (by decide +kernel) m1
    refine ⟨pk, keyV, j, _, rfl, rfl, SqL.of (b3 _ _ (P1.ne n2) e2), a1, ?_⟩
    refine ⟨_, rfl, by show 4 ≤ sizeLine; decide, fun U hU => ?_⟩
    refine ⟨_, rfl, p, c, 4, b, rfl, by decide, by decide, P3.upd (P3.ne hU) (P3.ne2 hU) _, fun r H4 r0 r1 b4 P4 => ?_⟩
    obtain ⟨w2, m2, a2⟩ := pick (ss := ["", "", "s", "1"]) r0 r1
    obtain ⟨x2, l2⟩ := asc_of (n := 1) (ss := ["", "", "s", "1"]) (by decide +kernel) m2
    refine ⟨U, _, r, _, rfl, rfl, SqT.of (b4 _ _ (P3.ne hU) upd_same), a2, w1, w2, rfl, rfl, ?_, q _ _ (app_asc x1 x2) ?_⟩
    · exact small_le (by omega)
    · rw [app_len]
      omega
  · refine ⟨_, rfl, rfl, _, rfl, ite2 (fun _ => ?_) (fun _ => ?_)⟩
    · refine ⟨_, rfl, p, c, 140001, b, rfl, by decide, by decide, P1, fun n H2 n0 n1 b2 P2 => ?_⟩
      refine ⟨fun σ' H' => ∃ (n : Int), σ' = [some (.ref p), some (.int k), none, some (.int n), none, none, none, none, none] ∧ 0 ≤ n ∧ n < 140001 ∧ Pool H' p c b, ?_, ?_⟩
      · refine ⟨_, rfl, p, c, 3, b, rfl, by decide, by decide, P2, fun k2 H3 g0 g1 b3 P3 => ?_⟩
        refine ⟨rfl, _, rfl, ite2 (fun _ => ?_) (fun _ => ⟨n, rfl, n0, n1, P3⟩)⟩
        exact ⟨_, rfl, p, c, 11, b, rfl, by decide, by decide, P3, fun k3 H4 f0 f1 b4 P4 => ⟨_, _, rfl, rfl, 65530 + k3, rfl, by omega, by omega, P4⟩⟩
      clear n0 n1 P2 b2 n
      rintro σ5 H5 ⟨n, rfl, n0, n1, P5⟩
      obtain ⟨m, rfl⟩ := Int.eq_ofNat_of_zero_le n0
      refine ⟨by show 4 ≤ sizeLine; decide, fun U hU => ?_⟩
      refine ⟨_, rfl, p, c, 4, b, rfl, by decide, by decide, P5.upd (P5.ne hU) (P5.ne2 hU) _, fun r H4 r0 r1 b4 P4 => ?_⟩
      obtain ⟨w2, m2, a2⟩ := pick (ss := ["", "", "0", "00"]) r0 r1
      obtain ⟨x2, l2⟩ := asc_of (n := 2) (ss := ["", "", "0", "00"]) (by decide +kernel) m2
      obtain ⟨x3, l3⟩ := num_asc m (by omega)
      refine ⟨U, _, r, _, rfl, rfl, SqT.of (b4 _ _ (P5.ne hU) upd_same), a2, _, rfl, _, rfl, log_small (Nat.lt_of_lt_of_le (show m < 140001 by omega) (by decide +kernel)), w2, _, rfl, rfl, ?_, q _ _ (app_asc x2 x3) ?_⟩
      · exact small_le (by omega)
      · rw [app_len]
        omega
    · refine ⟨_, rfl, p, c, 15, b, rfl, by decide, by decide, P1, fun n H2 n0 n1 b2 P2 => ?_⟩
      obtain ⟨m, rfl⟩ := Int.eq_ofNat_of_zero_le n0
      refine ⟨rfl, _, rfl, m, rfl, by omega, by omega, fun D hD => ?_⟩
      have nD := P2.ne hD
      have nD2 := P2.ne2 hD
      refine lc_range (fun i H' => ∃ cs : List Nat, cs.length = i ∧ (∀ x ∈ cs, x < 128) ∧ H' D = some (.lst ((cs.map fun x => (⟨#[x]⟩ : Str)).map V.str)) ∧ Pool H' p c b) ⟨[], rfl, (fun _ m => by cases m), upd_same, P2.upd nD nD2 _⟩ (fun i H6 hi ⟨cs, el, hc, e6, P6⟩ => ?_) (fun H6 ⟨cs, el, hc, e6, P6⟩ => ?_)
      · refine ⟨rfl, ?_⟩
        refine ⟨_, rfl, _, rfl, p, c, 36, b, rfl, by decide, by decide, P6, fun r H7 r0 r1 b7 P7 => ?_⟩
        obtain ⟨d, md, ad⟩ := pickS (z := ldS) r0 r1
        have d1 : d < 128 := by
          rw [ld_eq] at md
          have := (ld_mem d).mp md
          omega
        refine ⟨ldS, r, d, rfl, rfl, by decide +kernel, ad, ?_⟩
        refine ⟨_, b7 _ _ nD e6, ?_, cs ++ [d], by rw [List.length_append, el]; rfl, fun y m => ?_, ?_, P7.upd nD nD2 _⟩
        · rw [List.length_map, List.length_map, el]
          exact small1000 (by omega)
        · rcases List.mem_append.mp m with m | m
          · exact hc y m
          · rw [List.mem_singleton.mp m]
            exact d1
        · rw [upd_same, List.map_append, List.map_append]
          rfl
      generalize ex : Txt.join ("" : Str) (cs.map fun x => (⟨#[x]⟩ : Str)) = x
      have xc : x.cps.toList = cs := by rw [← ex]; exact join_signs cs
      have xa : Asc x := fun y m => hc y (by rw [← xc]; exact m)
      have xl : x.length ≤ 14 := by
        show x.cps.toList.length ≤ 14
        rw [xc, el]
        omega
      refine ⟨(("" : Str)), D, cs.map fun x => (⟨#[x]⟩ : Str), rfl, rfl, .inl (SqL.of e6), ?_, ?_⟩
      · rw [sum_signs]
        show cs.length + _ * 0 ≤ 16777216
        omega
      rw [ex]
      refine ⟨fun σ' H' => σ' = [some (.ref p), some (.int k), some (.str x), none, some (.str ldS), some (.int m), none, none, none], ?_, ?_⟩
      · refine ⟨_, rfl, p, c, 3, b, rfl, by decide, by decide, P6, fun k2 H7 g0 g1 b7 P7 => ?_⟩
        refine ⟨rfl, _, rfl, ite2 (fun _ => ?_) (fun _ => rfl)⟩
        refine ⟨_, rfl, _, rfl, _, _, rfl, rfl, p, c, (m : Int) + 1, b, rfl, by omega, by omega, P7, fun k3 H8 f0 f1 b8 P8 => ?_⟩
        have cl1 := cutS_length x none (some k3)
        have cl2 := cutS_length x (some k3) none
        refine ⟨_, rfl, _, rfl, k3, rfl, x, rfl, small_le (by omega), _, rfl, _, rfl, _, rfl, othersS, rfl, by decide +kernel, p, c, _, b, rfl, by decide +kernel, by decide +kernel, P8, fun k4 H9 e0 e1 b9 P9 => ?_⟩
        obtain ⟨d, md, ad⟩ := pickS (z := othersS) e0 e1
        have d1 : d < 128 := (asc_of (n := 100) (ss := [othersS]) (by decide +kernel) (List.mem_singleton.mpr rfl)).1 d md
        have one : (⟨#[d]⟩ : Str).length = 1 := rfl
        refine ⟨othersS, k4, d, rfl, rfl, by decide +kernel, ad, _, _, rfl, rfl, ?_, _, rfl, _, rfl, k3, rfl, x, rfl, small_le (by omega), _, _, rfl, rfl, ?_, q _ _ ?_ ?_⟩
        · exact small_le (by omega)
        · rw [app_len]
          exact small_le (by omega)
        · exact app_asc (app_asc (cutS_asc xa _ _) (one_asc d1)) (cutS_asc xa _ _)
        · rw [app_len, app_len]
          omega
      · rintro σ8 H8 rfl
        exact ⟨_, rfl, q x _ xa (by omega)⟩
/-! ### _law_is_name -/
def sp_law_is_name (T : Txt K mg) : Sp := fun vs H Q _ => ∃ (x : Str), vs = [.str x] ∧ x.length ≤ 100 ∧ ∀ (b : Bool) (H' : Hp), Same H H' → (b = true ↔ NameP x) → Q (.bl b) H'

theorem ok_law_is_name (T : Txt K mg) : FnOk P w K mg base CX0 2 T.a_law_is_name T.d_law_is_name ["word"] (sp_law_is_name T) := by
  refine T.F_law_is_name.ok sc_law_is_name (fun vs H Q E h => ?_) (fun cdv A outer s H vs Q E hr h => ?_)
  · obtain ⟨x, rfl, _⟩ := h
    rfl
  obtain ⟨x, rfl, hl, q⟩ := h
  refine ⟨_, (C8.pss_cut (ps_set (i := 1) sc_law_is_name.nd rfl (by first | exact Or.inl rfl | exact Or.inr rfl) (pe_and (pe_chain op_le op_le pe_int (pe_callB call_len_str (by rfl) T.z_len (by first | exact PySem.boot_len | decide +kernel) (pa_cons (pv 0) pa_nil)) pe_int) (pe_one (pe_cmpR op_notIn_seq (pv 0) (pe_call0 (ok_law_keys T) (hr.mono (by decide)) (by rfl) T.m_law_keys T.F_law_keys.kp T.b_law_keys .nil pass0) (by with_unfolding_all rfl)))))
      (pss_cons (ps_for PassesOwn.never rfl (pi_range1 (by rfl) T.z_range (pa_cons (pe_callB call_len_str (by rfl) T.z_len (by first | exact PySem.boot_len | decide +kernel) (pa_cons (pv 0) pa_nil)) pa_nil)) (pg_name (i := 2) sc_law_is_name.nd rfl (by first | exact Or.inl rfl | exact Or.inr rfl)) (C8.pss_cut (ps_set (i := 3) sc_law_is_name.nd rfl (by first | exact Or.inl rfl | exact Or.inr rfl) (pe_chain op_le_str op_le_str pe_str (pe_ix ix_str (pv 0) (pv 2) (fun _ _ => rfl)) pe_str))
      (pss_one (ps_set (i := 1) sc_law_is_name.nd rfl (by first | exact Or.inl rfl | exact Or.inr rfl) (pe_and (pv 1) (pe_one (pe_or (pv 3) (pe_one (pe_and (pe_cmpR op_gt (pv 2) pe_int (nomark _)) (pe_one (pe_chain op_le_str op_le_str pe_str (pe_ix ix_str (pv 0) (pv 2) (fun _ _ => rfl)) pe_str)))))))))))
      (pss_one (ps_ret (pv 1))))), ?_⟩
  let base : Prop := 1 ≤ x.length ∧ x.length ≤ 12 ∧ inV (.str x) keyV = false
  refine ⟨fun σ' H' => ∃ g : Bool, σ' = [some (.str x), some (.bl g), none, none] ∧ Same H H' ∧ (g = true ↔ base), ?_, ?_⟩
  · refine ⟨_, rfl, x, rfl, small_le (by omega), _, _, rfl, rfl, _, rfl, ite2 (fun c1 => ?_) (fun c1 => ?_)⟩
    · have c1' : (1 : Int) ≤ (x.length : Int) := of_decide_eq_true c1
      refine ⟨_, _, rfl, rfl, _, rfl, ite2 (fun c2 => ?_) (fun c2 => ?_)⟩
      · have c2' : (x.length : Int) ≤ 12 := of_decide_eq_true c2
        refine ⟨_, rfl, rfl, fun pk H2 s2 n2 e2 => ?_⟩
        refine ⟨pk, keyV, rfl, .inl (SqL.of e2), rfl, key_flat, _, rfl, s2, ?_⟩
        show (!inV (.str x) keyV) = true ↔ base
        rw [Bool.not_eq_true']
        exact ⟨fun z => ⟨by omega, by omega, z⟩, fun z => z.2.2⟩
      · refine ⟨false, rfl, (fun _ _ h => h), ⟨fun z => (by cases z), fun z => ?_⟩⟩
        exact absurd (decide_eq_true (show (x.length : Int) ≤ 12 by have := z.2.1; omega)) c2
    · refine ⟨_, rfl, iteF ?_⟩
      refine ⟨false, rfl, (fun _ _ h => h), ⟨fun z => (by cases z), fun z => ?_⟩⟩
      exact absurd (decide_eq_true (show (1 : Int) ≤ (x.length : Int) by have := z.1; omega)) c1
  rintro σ1 H1 ⟨g, rfl, s1, g1⟩
  refine ⟨_, rfl, x, rfl, small_le (by omega), _, rfl, by omega, by omega, for_range (fun i σ' H' => ∃ (g : Bool) (yk yl : Option V), σ' = [some (.str x), some (.bl g), yk, yl] ∧ H' = H1 ∧ (g = true ↔ base ∧ ∀ (k : Nat) d, k < i → x.cps.toList[k]? = some d → okAt k d)) ⟨g, none, none, rfl, rfl, ?_⟩ ?_ ?_⟩
  · rw [g1]
    exact ⟨fun z => ⟨z, fun k d hk => absurd hk (Nat.not_lt_zero k)⟩, fun z => z.1⟩
  · rintro i σ2 H2 hi ⟨g, yk, yl, rfl, rfl, gi⟩
    have hi2 : i < x.cps.toList.length := by
      have : x.length = x.cps.toList.length := rfl
      omega
    have gc : x.cps.toList[i]? = some (x.cps.toList[i]) := List.getElem?_eq_getElem hi2
    generalize x.cps.toList[i] = c at gc
    have e0 : (0 : Int) + (i : Int) = ((i : Nat) : Int) := Int.zero_add _
    refine ⟨fun σ' H' => ∃ lt : Bool, σ' = [some (.str x), some (.bl g), some (.int (0 + (i : Int))), some (.bl lt)] ∧ H' = H2 ∧ (lt = true ↔ 97 ≤ c ∧ c ≤ 122), ?_, ?_⟩
    · refine ⟨_, rfl, _, rfl, x, _, c, rfl, rfl, small_le (by omega), at_ofG e0 gc, _, _, rfl, rfl, _, rfl, ite2 (fun c1 => ?_) (fun c1 => ?_)⟩
      · refine ⟨_, _, rfl, rfl, _, rfl, rfl, ?_⟩
        exact ⟨fun z => ⟨ge1.mp c1, ge1.mp z⟩, fun z => ge1.mpr z.2⟩
      · refine ⟨false, rfl, rfl, ⟨fun z => (by cases z), fun z => absurd (ge1.mpr z.1) c1⟩⟩
    rintro σ3 H3 ⟨lt, rfl, rfl, hlt⟩
    have fin : ∀ b' : Bool, (b' = true ↔ (g = true ∧ okAt i c)) → (b' = true ↔ base ∧ ∀ (k : Nat) d, k < i + 1 → x.cps.toList[k]? = some d → okAt k d) := fun b' h => by
      rw [h, gi, step_iff gc, and_assoc]
    refine ⟨_, rfl, g, rfl, ite2 (fun g1 => ⟨_, rfl, lt, rfl, ite2 (fun l1 => ?_) (fun l1 => ⟨_, rfl, _, _, rfl, rfl, _, rfl, ite2 (fun k1 => ?_) (fun k1 => ?_)⟩)⟩) (fun g1 => ?_)⟩
    · exact ⟨true, _, _, rfl, rfl, fin true ⟨fun _ => ⟨g1, .inl (hlt.mp l1)⟩, fun _ => rfl⟩⟩
    · have k1' : (0 : Int) < 0 + (i : Int) := of_decide_eq_true k1
      refine ⟨_, rfl, _, rfl, x, _, c, rfl, rfl, small_le (by omega), at_ofG e0 gc, _, _, rfl, rfl, _, rfl, ite2 (fun c1 => ?_) (fun c1 => ?_)⟩
      · refine ⟨_, _, rfl, rfl, _, _, _, rfl, rfl, fin _ ⟨fun z => ⟨g1, .inr ⟨by omega, ge1.mp c1, ge1.mp z⟩⟩, fun z => ?_⟩⟩
        rcases z.2 with z | z
        · exact absurd (hlt.mpr z) l1
        · exact ge1.mpr z.2.2
      · refine ⟨false, _, _, rfl, rfl, fin _ ⟨fun z => (by cases z), fun z => ?_⟩⟩
        rcases z.2 with z | z
        · exact absurd (hlt.mpr z) l1
        · exact absurd (ge1.mpr z.2.1) c1
    · have k1' : ¬ (0 : Int) < 0 + (i : Int) := fun z => k1 (decide_eq_true z)
      refine ⟨false, _, _, rfl, rfl, fin _ ⟨fun z => (by cases z), fun z => ?_⟩⟩
      rcases z.2 with z | z
      · exact absurd (hlt.mpr z) l1
      · exact absurd z.1 (by omega)
    · exact ⟨false, _, _, rfl, rfl, fin _ ⟨fun z => (by cases z), fun z => absurd z.1 g1⟩⟩
  · rintro σ2 H2 ⟨g, yk, yl, rfl, rfl, gi⟩
    refine ⟨_, rfl, q g _ s1 ?_⟩
    rw [gi]
    constructor
    · rintro ⟨⟨z1, z2, z3⟩, z4⟩
      refine ⟨z1, z2, z3, fun k d e => z4 k d ?_ e⟩
      have : k < x.cps.toList.length := (List.getElem?_eq_some_iff.mp e).1
      have : x.length = x.cps.toList.length := rfl
      omega
    · rintro ⟨z1, z2, z3, z4⟩
      exact ⟨⟨z1, z2, z3⟩, fun k d _ e => z4 k d e⟩
/-! ### _law_number_of -/
def sp_law_number_of (T : Txt K mg) : Sp := fun vs H Q _ => ∃ (x : Str), vs = [.str x] ∧ x.length ≤ 100 ∧ ∀ (r : V), NumR x r → Q r H

theorem ok_law_number_of (T : Txt K mg) : FnOk P w K mg base CX0 1 T.a_law_number_of T.d_law_number_of ["word"] (sp_law_number_of T) := by
  refine T.F_law_number_of.ok sc_law_number_of (fun vs H Q E h => ?_) (fun cdv A outer s H vs Q E hr h => ?_)
  · obtain ⟨x, rfl, _⟩ := h
    rfl
  obtain ⟨x, rfl, hl, q⟩ := h
  refine ⟨_, (pss_cons (ps_set (i := 1) sc_law_number_of.nd rfl (by first | exact Or.inl rfl | exact Or.inr rfl) pe_int)
      (pss_cons (ps_for PassesOwn.never rfl (pi_str (pv 0)) (pg_name (i := 2) sc_law_number_of.nd rfl (by first | exact Or.inl rfl | exact Or.inr rfl)) (pss_cons (ps_if (pt_not (pt_chain op_le_str op_le_str pe_str (pv 2) pe_str)) (pss_one (ps_ret pe_non)) pss_nil)
      (pss_one (ps_set (i := 1) sc_law_number_of.nd rfl (by first | exact Or.inl rfl | exact Or.inr rfl) (pe_op op_sub (pe_op op_add (pe_op op_mul (pv 1) pe_int) (pe_callB call_ord (by rfl) T.z_ord (by first | exact PySem.boot_ord | decide +kernel) (pa_cons (pv 2) pa_nil))) pe_int)))))
      (pss_cons (ps_if (PW.pt (pw_or (pt_cmpR op_ne (pe_callTy call_str_int (by rfl) T.z_str (by first | exact PySem.boot_str | decide +kernel) (pa_cons (pv 1) pa_nil)) (pv 0) (nomark _)) (pw_or1 (pt_cmpR op_gt (pv 1) pe_int (nomark _))))) (pss_one (ps_ret pe_non)) pss_nil)
      (pss_one (ps_ret (pv 1)))))), ?_⟩
  have hx0 : x.length = x.cps.toList.length := rfl
  have tkA : x.cps.toList.take x.cps.size = x.cps.toList := List.take_of_length_le (Nat.le_refl _)
  refine ⟨_, rfl, x, rfl, for_it (walk_str (z := x)) (fun i σ' H' => ∃ (y : Option V) (v : Nat), σ' = [some (.str x), some (.int v), y] ∧ H' = H ∧ v = NumText.digitsVal (x.cps.toList.take i) ∧ NumText.AllDigits (x.cps.toList.take i) ∧ v < 10 ^ i)
    ⟨none, 0, rfl, rfl, by rw [List.take_zero]; rfl, by rw [List.take_zero]; exact fun c m => (by cases m), by decide⟩ (fun _ _ _ _ _ => trivial) ?_ ?_⟩
  · rintro i ch σ1 H1 H2 hi ⟨y, v, rfl, rfl, ev, dv, lv⟩ ⟨rfl, c, gc, rfl⟩
    have gl : x.cps.toList[i]? = some c := by rw [Array.getElem?_toList]; exact gc
    have tk : x.cps.toList.take (i + 1) = x.cps.toList.take i ++ [c] := by rw [List.take_add_one, gl]; rfl
    have notd : ¬ (48 ≤ c ∧ c ≤ 57) → NumR x .non := fun z => .inr ⟨fun n hn e => z (TL.numL_digits n c (by rw [← e]; exact List.mem_of_getElem? gl)), rfl⟩
    refine ⟨_, rfl, _, _, rfl, rfl, _, rfl, ite2 (fun c1 => ?_) (fun c1 => ?_)⟩
    · refine ⟨_, _, rfl, rfl, _, rfl, ite2 (fun c2 => ?_) (fun c2 => ?_)⟩
      · refine q _ (notd fun z => ?_)
        have t : (!decide (("9" : Str).cps.toList < (⟨#[c]⟩ : Str).cps.toList)) = true := ge1.mpr z.2
        rw [t] at c2
        cases c2
      · have c2' : c ≤ 57 := by
          by_cases z : c ≤ 57
          · exact z
          · refine absurd ?_ c2
            cases e : (!decide (("9" : Str).cps.toList < (⟨#[c]⟩ : Str).cps.toList)) with
            | true => exact absurd (ge1.mp e) z
            | false => rfl
        have c1' : 48 ≤ c := ge1.mp c1
        refine ⟨_, rfl, _, _, rfl, rfl, .inr ⟨by decide, by decide⟩, _, rfl, _, rfl, rfl, _, _, rfl, rfl, _, _, rfl, rfl, ?_⟩
        have ci : ((v : Int) * 10 + (c : Int)) - 48 = ((v * 10 + (c - 48) : Nat) : Int) := by omega
        refine ⟨some (.str ⟨#[c]⟩), v * 10 + (c - 48), ?_, rfl, ?_, fun d m => ?_, ?_⟩
        · show [some (V.str x), some (V.int ((v : Int) * 10 + (c : Int) - 48)), some (V.str ⟨#[c]⟩)] = _
          rw [ci]
        · rw [tk, dv_snoc, ← ev]
        · rw [tk] at m
          rcases List.mem_append.mp m with m | m
          · exact dv d m
          · rw [List.mem_singleton.mp m]
            exact ⟨c1', c2'⟩
        · rw [Nat.pow_succ]
          omega
    · refine ⟨_, rfl, iteT ?_⟩
      exact q _ (notd fun z => c1 (ge1.mpr z.1))
  · rintro σ1 H1 ⟨y, v, rfl, rfl, ev, dv, lv⟩
    rw [tkA] at ev dv
    have uniq : ∀ n, x.cps.toList = TL.numL n → n = v := fun n e => by rw [ev, e, TL.numL_val]
    refine ⟨_, rfl, _, rfl, log_small (Nat.lt_of_lt_of_le lv (Nat.pow_le_pow_right (by decide) (by show x.cps.toList.length ≤ 101; omega))), _, rfl, rfl, _, rfl, ite2 (fun c4 => ?_) (fun c4 => ?_)⟩
    · refine q _ (.inr ⟨fun n hn e => ?_, rfl⟩)
      have e1 := uniq n e
      subst e1
      rw [decide_eq_true (congrArg V.str (str_num e))] at c4
      cases c4
    · have ex : x.cps.toList = TL.numL v := by
        by_cases y : V.str (Str.ofString (toString ((v : Nat) : Int))) = V.str x
        · exact num_str y
        · exact absurd (by rw [decide_eq_false y]; rfl) c4
      refine ⟨_, rfl, _, _, rfl, rfl, _, rfl, ite2 (fun c3 => ?_) (fun c3 => ?_)⟩
      · have c3' : (65535 : Int) < (v : Int) := of_decide_eq_true c3
        refine q _ (.inr ⟨fun n hn e => ?_, rfl⟩)
        have := uniq n e
        omega
      · have c3' : ¬ (65535 : Int) < (v : Int) := fun z => c3 (decide_eq_true z)
        exact ⟨_, rfl, q _ (.inl ⟨v, by omega, ex, rfl⟩)⟩
/-! ### law -/
def sp_law (T : Txt K mg) : Sp := spLaw K

theorem ok_law (T : Txt K mg) : FnOk P w K mg base CX0 9 T.a_law T.d_law ["script"] (sp_law T) := by
  refine T.F_law.ok sc_law (fun vs H Q E h => ?_) (fun cdv A outer s H vs Q E hr h => ?_)
  · obtain ⟨a, ns, rfl, _⟩ := h
    rfl
  obtain ⟨a, ns, rfl, hS, h63, q⟩ := h
  refine ⟨_, (pss_cons (ps_set (i := 1) sc_law.nd rfl (by first | exact Or.inl rfl | exact Or.inr rfl) (pe_call (ok_law_word T) (hr.mono (by decide)) (by rfl) T.m_law_word T.F_law_word.kp T.b_law_word .nil pass0 (pa_cons (pe_call (ok_law_pool T) (hr.mono (by decide)) (by rfl) T.m_law_pool T.F_law_pool.kp T.b_law_pool .nil pass0 (pa_cons (pv 0) (pa_cons pe_int pa_nil))) pa_nil)))
      (pss_one (ps_ret (pe_and (pe_call (ok_law_same T 8) (hr.mono (by decide)) (by rfl) T.m_law_same T.F_law_same.kp T.b_law_same .nil pass0 (pa_cons (pe_call (ok_is_name T) (hr.mono (by decide)) (by rfl) T.m_is_name T.F_is_name.kp T.b_is_name .nil pass0 (pa_cons (pv 1) pa_nil)) (pa_cons (pe_call (ok_law_is_name T) (hr.mono (by decide)) (by rfl) T.m_law_is_name T.F_law_is_name.kp T.b_law_is_name .nil pass0 (pa_cons (pv 1) pa_nil)) pa_nil))) (pe_one (pe_call (ok_law_same T 8) (hr.mono (by decide)) (by rfl) T.m_law_same T.F_law_same.kp T.b_law_same .nil pass0 (pa_cons (pe_call (ok_number_of T) (hr.mono (by decide)) (by rfl) T.m_number_of T.F_number_of.kp T.b_number_of .nil pass0 (pa_cons (pv 1) pa_nil)) (pa_cons (pe_call (ok_law_number_of T) (hr.mono (by decide)) (by rfl) T.m_law_number_of T.F_law_number_of.kp T.b_law_number_of .nil pass0 (pa_cons (pv 1) pa_nil)) pa_nil)))))))), ?_⟩
  refine ⟨_, rfl, a, ns, 0, rfl, hS, fun p c H1 s1 np nc P1 => ?_⟩
  refine ⟨p, c, 0, rfl, P1, fun x H2 xa xl => ?_⟩
  refine ⟨_, rfl, x, rfl, by omega, fun b3 H3 s3 g3 => ?_⟩
  refine ⟨_, rfl, x, rfl, by omega, fun b4 H4 s4 g4 => ?_⟩
  have eb : b3 = b4 := Bool.eq_iff_iff.mpr (g3.trans g4.symm)
  subst eb
  refine ⟨_, _, .bool b3, rfl, .bl _, .bl _, by simp [PyData.depth], by simp [wide], true, rfl, ?_⟩
  refine ⟨_, rfl, x, rfl, xa, by omega, fun r5 g5 => ?_⟩
  refine ⟨_, rfl, x, rfl, by omega, fun r6 g6 => ?_⟩
  have er := num_same g5 g6
  subst er
  obtain ⟨d, hd, h1, h2⟩ := num_da (H := H4) g5
  exact ⟨_, _, d, rfl, hd, hd, h1, h2, q _⟩
end
/-! ### what the top has written -/
theorem all_mk {l : PySem.W.OpenLaw} {w : World} {K : PySem.W.Frag} {h : Heap} {mg : Str → Option Value} {fa : Addr} (X : K.In h) (G : h.Ns mainGlobals mg) (hfa : mg "law" = some (.ref fa))
    {tk_LETTERS_AND_DIGITS : Tok}
    {tk_LETTERS : Tok}
    {A_KEY_WORDS : Addr} {tq_KEY_WORDS : Option Addr} {tr_KEY_WORDS : Nat} {tu_KEY_WORDS : Array (Option Value)} {tk_KEY_WORDS_0 tk_KEY_WORDS_1 tk_KEY_WORDS_2 tk_KEY_WORDS_3 tk_KEY_WORDS_4 tk_KEY_WORDS_5 tk_KEY_WORDS_6 tk_KEY_WORDS_7 tk_KEY_WORDS_8 tk_KEY_WORDS_9 tk_KEY_WORDS_10 tk_KEY_WORDS_11 tk_KEY_WORDS_12 tk_KEY_WORDS_13 tk_KEY_WORDS_14 tk_KEY_WORDS_15 tk_KEY_WORDS_16 tk_KEY_WORDS_17 tk_KEY_WORDS_18 tk_KEY_WORDS_19 tk_KEY_WORDS_20 tk_KEY_WORDS_21 tk_KEY_WORDS_22 tk_KEY_WORDS_23 tk_KEY_WORDS_24 tk_KEY_WORDS_25 : Tok}
    {tk_LONGEST_NAME : Tok}
    {tk_GREATEST_NUMBER : Tok}
    {tk_LONGEST_NUMBER : Tok}
    {f1 : Addr} {od1 an1 : Option Addr} {sl1 : Array (Option Value)} {oc1 kV1 dc1 pm1 cd1 ct1 : Value}
    {f2 : Addr} {od2 an2 : Option Addr} {sl2 : Array (Option Value)} {oc2 kV2 dc2 pm2 cd2 ct2 : Value}
    {f3 : Addr} {od3 an3 : Option Addr} {sl3 : Array (Option Value)} {oc3 kV3 dc3 pm3 cd3 ct3 : Value}
    {f4 : Addr} {od4 an4 : Option Addr} {sl4 : Array (Option Value)} {oc4 kV4 dc4 pm4 cd4 ct4 : Value}
    {f5 : Addr} {od5 an5 : Option Addr} {sl5 : Array (Option Value)} {oc5 kV5 dc5 pm5 cd5 ct5 : Value}
    {f6 : Addr} {od6 an6 : Option Addr} {sl6 : Array (Option Value)} {oc6 kV6 dc6 pm6 cd6 ct6 : Value}
    {f7 : Addr} {od7 an7 : Option Addr} {sl7 : Array (Option Value)} {oc7 kV7 dc7 pm7 cd7 ct7 : Value}
    {f8 : Addr} {od8 an8 : Option Addr} {sl8 : Array (Option Value)} {oc8 kV8 dc8 pm8 cd8 ct8 : Value}
    {f9 : Addr} {od9 an9 : Option Addr} {sl9 : Array (Option Value)} {oc9 kV9 dc9 pm9 cd9 ct9 : Value}
    {f10 : Addr} {od10 an10 : Option Addr} {sl10 : Array (Option Value)} {oc10 kV10 dc10 pm10 cd10 ct10 : Value}
    (ac_LETTERS_AND_DIGITS : PySem.W.nsIn K mainGlobals "LETTERS_AND_DIGITS" = some (some (.str "abcdefghijklmnopqrstuvwxyz0123456789" tk_LETTERS_AND_DIGITS)))
    (ac_LETTERS : PySem.W.nsIn K mainGlobals "LETTERS" = some (some (.str "abcdefghijklmnopqrstuvwxyz" tk_LETTERS)))
    (ac_KEY_WORDS : PySem.W.nsIn K mainGlobals "KEY_WORDS" = some (some (.ref A_KEY_WORDS)))
    (lk_KEY_WORDS : K.lookup A_KEY_WORDS = some ⟨.type "tuple", tq_KEY_WORDS, .seq #[.str "option" tk_KEY_WORDS_0, .str "on" tk_KEY_WORDS_1, .str "off" tk_KEY_WORDS_2, .str "var" tk_KEY_WORDS_3, .str "round" tk_KEY_WORDS_4, .str "end" tk_KEY_WORDS_5, .str "set" tk_KEY_WORDS_6, .str "if" tk_KEY_WORDS_7, .str "else" tk_KEY_WORDS_8, .str "when" tk_KEY_WORDS_9, .str "draw" tk_KEY_WORDS_10, .str "first" tk_KEY_WORDS_11, .str "second" tk_KEY_WORDS_12, .str "show" tk_KEY_WORDS_13, .str "both" tk_KEY_WORDS_14, .str "pay" tk_KEY_WORDS_15, .str "take" tk_KEY_WORDS_16, .str "pick" tk_KEY_WORDS_17, .str "mod" tk_KEY_WORDS_18, .str "player" tk_KEY_WORDS_19, .str "keep" tk_KEY_WORDS_20, .str "lot" tk_KEY_WORDS_21, .str "while" tk_KEY_WORDS_22, .str "answer" tk_KEY_WORDS_23, .str "view" tk_KEY_WORDS_24, .str "long" tk_KEY_WORDS_25] tr_KEY_WORDS, tu_KEY_WORDS⟩)
    (ac_LONGEST_NAME : PySem.W.nsIn K mainGlobals "LONGEST_NAME" = some (some (.int 12 tk_LONGEST_NAME)))
    (ac_GREATEST_NUMBER : PySem.W.nsIn K mainGlobals "GREATEST_NUMBER" = some (some (.int 65535 tk_GREATEST_NUMBER)))
    (ac_LONGEST_NUMBER : PySem.W.nsIn K mainGlobals "LONGEST_NUMBER" = some (some (.int 5 tk_LONGEST_NUMBER)))
    (a1 : PySem.W.nsIn K mainGlobals "is_name" = some (some (.ref f1)))
    (l1 : K.lookup f1 = some ⟨oc1, od1, .func (PySem.W.fnOf "is_name" "is_name" (defArgs s_is_name) (defBody s_is_name) (defScope s_is_name) .none kV1 dc1 pm1 an1 cd1 ct1), sl1⟩)
    (c1 : PySem.W.codeIn K cd1 "is_name" = true)
    (k1 : PySem.W.keepIn K (.ref f1) = true)
    (a2 : PySem.W.nsIn K mainGlobals "number_of" = some (some (.ref f2)))
    (l2 : K.lookup f2 = some ⟨oc2, od2, .func (PySem.W.fnOf "number_of" "number_of" (defArgs s_number_of) (defBody s_number_of) (defScope s_number_of) .none kV2 dc2 pm2 an2 cd2 ct2), sl2⟩)
    (c2 : PySem.W.codeIn K cd2 "number_of" = true)
    (k2 : PySem.W.keepIn K (.ref f2) = true)
    (a3 : PySem.W.nsIn K mainGlobals "_law_pool" = some (some (.ref f3)))
    (l3 : K.lookup f3 = some ⟨oc3, od3, .func (PySem.W.fnOf "_law_pool" "_law_pool" (defArgs s_law_pool) (defBody s_law_pool) (defScope s_law_pool) .none kV3 dc3 pm3 an3 cd3 ct3), sl3⟩)
    (c3 : PySem.W.codeIn K cd3 "_law_pool" = true)
    (k3 : PySem.W.keepIn K (.ref f3) = true)
    (a4 : PySem.W.nsIn K mainGlobals "_law_draw" = some (some (.ref f4)))
    (l4 : K.lookup f4 = some ⟨oc4, od4, .func (PySem.W.fnOf "_law_draw" "_law_draw" (defArgs s_law_draw) (defBody s_law_draw) (defScope s_law_draw) .none kV4 dc4 pm4 an4 cd4 ct4), sl4⟩)
    (c4 : PySem.W.codeIn K cd4 "_law_draw" = true)
    (k4 : PySem.W.keepIn K (.ref f4) = true)
    (a5 : PySem.W.nsIn K mainGlobals "_law_same" = some (some (.ref f5)))
    (l5 : K.lookup f5 = some ⟨oc5, od5, .func (PySem.W.fnOf "_law_same" "_law_same" (defArgs s_law_same) (defBody s_law_same) (defScope s_law_same) .none kV5 dc5 pm5 an5 cd5 ct5), sl5⟩)
    (c5 : PySem.W.codeIn K cd5 "_law_same" = true)
    (k5 : PySem.W.keepIn K (.ref f5) = true)
    (a6 : PySem.W.nsIn K mainGlobals "_law_keys" = some (some (.ref f6)))
    (l6 : K.lookup f6 = some ⟨oc6, od6, .func (PySem.W.fnOf "_law_keys" "_law_keys" (defArgs s_law_keys) (defBody s_law_keys) (defScope s_law_keys) .none kV6 dc6 pm6 an6 cd6 ct6), sl6⟩)
    (c6 : PySem.W.codeIn K cd6 "_law_keys" = true)
    (k6 : PySem.W.keepIn K (.ref f6) = true)
    (a7 : PySem.W.nsIn K mainGlobals "_law_word" = some (some (.ref f7)))
    (l7 : K.lookup f7 = some ⟨oc7, od7, .func (PySem.W.fnOf "_law_word" "_law_word" (defArgs s_law_word) (defBody s_law_word) (defScope s_law_word) .none kV7 dc7 pm7 an7 cd7 ct7), sl7⟩)
    (c7 : PySem.W.codeIn K cd7 "_law_word" = true)
    (k7 : PySem.W.keepIn K (.ref f7) = true)
    (a8 : PySem.W.nsIn K mainGlobals "_law_is_name" = some (some (.ref f8)))
    (l8 : K.lookup f8 = some ⟨oc8, od8, .func (PySem.W.fnOf "_law_is_name" "_law_is_name" (defArgs s_law_is_name) (defBody s_law_is_name) (defScope s_law_is_name) .none kV8 dc8 pm8 an8 cd8 ct8), sl8⟩)
    (c8 : PySem.W.codeIn K cd8 "_law_is_name" = true)
    (k8 : PySem.W.keepIn K (.ref f8) = true)
    (a9 : PySem.W.nsIn K mainGlobals "_law_number_of" = some (some (.ref f9)))
    (l9 : K.lookup f9 = some ⟨oc9, od9, .func (PySem.W.fnOf "_law_number_of" "_law_number_of" (defArgs s_law_number_of) (defBody s_law_number_of) (defScope s_law_number_of) .none kV9 dc9 pm9 an9 cd9 ct9), sl9⟩)
    (c9 : PySem.W.codeIn K cd9 "_law_number_of" = true)
    (k9 : PySem.W.keepIn K (.ref f9) = true)
    (a10 : PySem.W.nsIn K mainGlobals "law" = some (some (.ref f10)))
    (l10 : K.lookup f10 = some ⟨oc10, od10, .func (PySem.W.fnOf "law" "law" (defArgs s_law) (defBody s_law) (defScope s_law) .none kV10 dc10 pm10 an10 cd10 ct10), sl10⟩)
    (c10 : PySem.W.codeIn K cd10 "law" = true)
    (k10 : PySem.W.keepIn K (.ref f10) = true)
    (z_all : PySem.W.nsIn K mainGlobals "all" = some none)
    (z_bool : PySem.W.nsIn K mainGlobals "bool" = some none)
    (z_int : PySem.W.nsIn K mainGlobals "int" = some none)
    (z_isinstance : PySem.W.nsIn K mainGlobals "isinstance" = some none)
    (z_len : PySem.W.nsIn K mainGlobals "len" = some none)
    (z_list : PySem.W.nsIn K mainGlobals "list" = some none)
    (z_ord : PySem.W.nsIn K mainGlobals "ord" = some none)
    (z_range : PySem.W.nsIn K mainGlobals "range" = some none)
    (z_str : PySem.W.nsIn K mainGlobals "str" = some none)
    (z_tuple : PySem.W.nsIn K mainGlobals "tuple" = some none) :
    ∃ fd : FuncData, (∀ (s : Shared) (v : Value), BindsTo s fd ⟨[v], []⟩ [("script", v)]) ∧ ∀ base : Heap, K.In base → base.Ns mainGlobals mg → FnOk l.prog w K mg base CX0 9 fa fd ["script"] (spLaw K) := by
  have e := hfa.symm.trans (PySem.W.mg_of X G a10)
  cases e
  let T : Txt K mg := { v_LETTERS_AND_DIGITS := _, g_LETTERS_AND_DIGITS := PySem.W.mg_of X G ac_LETTERS_AND_DIGITS, r_LETTERS_AND_DIGITS := ⟨_, rfl⟩, v_LETTERS := _, g_LETTERS := PySem.W.mg_of X G ac_LETTERS, r_LETTERS := ⟨_, rfl⟩, A_KEY_WORDS := A_KEY_WORDS, g_KEY_WORDS := PySem.W.mg_of X G ac_KEY_WORDS, q_KEY_WORDS := fun H => .inr ⟨_, _, _, lk_KEY_WORDS, rfl, rfl, by show 26 ≤ sizeLine; decide, (.cons (by first | exact ⟨_, rfl⟩ | rfl) (.cons (by first | exact ⟨_, rfl⟩ | rfl) (.cons (by first | exact ⟨_, rfl⟩ | rfl) (.cons (by first | exact ⟨_, rfl⟩ | rfl) (.cons (by first | exact ⟨_, rfl⟩ | rfl) (.cons (by first | exact ⟨_, rfl⟩ | rfl) (.cons (by first | exact ⟨_, rfl⟩ | rfl) (.cons (by first | exact ⟨_, rfl⟩ | rfl) (.cons (by first | exact ⟨_, rfl⟩ | rfl) (.cons (by first | exact ⟨_, rfl⟩ | rfl) (.cons (by first | exact ⟨_, rfl⟩ | rfl) (.cons (by first | exact ⟨_, rfl⟩ | rfl) (.cons (by first | exact ⟨_, rfl⟩ | rfl) (.cons (by first | exact ⟨_, rfl⟩ | rfl) (.cons (by first | exact ⟨_, rfl⟩ | rfl) (.cons (by first | exact ⟨_, rfl⟩ | rfl) (.cons (by first | exact ⟨_, rfl⟩ | rfl) (.cons (by first | exact ⟨_, rfl⟩ | rfl) (.cons (by first | exact ⟨_, rfl⟩ | rfl) (.cons (by first | exact ⟨_, rfl⟩ | rfl) (.cons (by first | exact ⟨_, rfl⟩ | rfl) (.cons (by first | exact ⟨_, rfl⟩ | rfl) (.cons (by first | exact ⟨_, rfl⟩ | rfl) (.cons (by first | exact ⟨_, rfl⟩ | rfl) (.cons (by first | exact ⟨_, rfl⟩ | rfl) (.cons (by first | exact ⟨_, rfl⟩ | rfl) .nil))))))))))))))))))))))))))⟩, v_LONGEST_NAME := _, g_LONGEST_NAME := PySem.W.mg_of X G ac_LONGEST_NAME, r_LONGEST_NAME := ⟨_, rfl⟩, v_GREATEST_NUMBER := _, g_GREATEST_NUMBER := PySem.W.mg_of X G ac_GREATEST_NUMBER, r_GREATEST_NUMBER := ⟨_, rfl⟩, v_LONGEST_NUMBER := _, g_LONGEST_NUMBER := PySem.W.mg_of X G ac_LONGEST_NUMBER, r_LONGEST_NUMBER := ⟨_, rfl⟩, a_is_name := f1, d_is_name := _, F_is_name := fun_mk (st := s_is_name) l1 c1 k1, b_is_name := (fun_mk (st := s_is_name) l1 c1 k1).binds (ps := ["word"]) (fun _ _ _ _ _ _ us hl => match us, hl with | [_], _ => rfl), m_is_name := PySem.W.mg_of X G a1, a_number_of := f2, d_number_of := _, F_number_of := fun_mk (st := s_number_of) l2 c2 k2, b_number_of := (fun_mk (st := s_number_of) l2 c2 k2).binds (ps := ["word"]) (fun _ _ _ _ _ _ us hl => match us, hl with | [_], _ => rfl), m_number_of := PySem.W.mg_of X G a2, a_law_pool := f3, d_law_pool := _, F_law_pool := fun_mk (st := s_law_pool) l3 c3 k3, b_law_pool := (fun_mk (st := s_law_pool) l3 c3 k3).binds (ps := ["script", "budget"]) (fun _ _ _ _ _ _ us hl => match us, hl with | [_, _], _ => rfl), m_law_pool := PySem.W.mg_of X G a3, a_law_draw := f4, d_law_draw := _, F_law_draw := fun_mk (st := s_law_draw) l4 c4 k4, b_law_draw := (fun_mk (st := s_law_draw) l4 c4 k4).binds (ps := ["pool", "size"]) (fun _ _ _ _ _ _ us hl => match us, hl with | [_, _], _ => rfl), m_law_draw := PySem.W.mg_of X G a4, a_law_same := f5, d_law_same := _, F_law_same := fun_mk (st := s_law_same) l5 c5 k5, b_law_same := (fun_mk (st := s_law_same) l5 c5 k5).binds (ps := ["actual", "due"]) (fun _ _ _ _ _ _ us hl => match us, hl with | [_, _], _ => rfl), m_law_same := PySem.W.mg_of X G a5, a_law_keys := f6, d_law_keys := _, F_law_keys := fun_mk (st := s_law_keys) l6 c6 k6, b_law_keys := (fun_mk (st := s_law_keys) l6 c6 k6).binds (ps := []) (fun _ _ _ _ _ _ us hl => match us, hl with | [], _ => rfl), m_law_keys := PySem.W.mg_of X G a6, a_law_word := f7, d_law_word := _, F_law_word := fun_mk (st := s_law_word) l7 c7 k7, b_law_word := (fun_mk (st := s_law_word) l7 c7 k7).binds (ps := ["pool"]) (fun _ _ _ _ _ _ us hl => match us, hl with | [_], _ => rfl), m_law_word := PySem.W.mg_of X G a7, a_law_is_name := f8, d_law_is_name := _, F_law_is_name := fun_mk (st := s_law_is_name) l8 c8 k8, b_law_is_name := (fun_mk (st := s_law_is_name) l8 c8 k8).binds (ps := ["word"]) (fun _ _ _ _ _ _ us hl => match us, hl with | [_], _ => rfl), m_law_is_name := PySem.W.mg_of X G a8, a_law_number_of := f9, d_law_number_of := _, F_law_number_of := fun_mk (st := s_law_number_of) l9 c9 k9, b_law_number_of := (fun_mk (st := s_law_number_of) l9 c9 k9).binds (ps := ["word"]) (fun _ _ _ _ _ _ us hl => match us, hl with | [_], _ => rfl), m_law_number_of := PySem.W.mg_of X G a9, a_law := fa, d_law := _, F_law := fun_mk (st := s_law) l10 c10 k10, b_law := (fun_mk (st := s_law) l10 c10 k10).binds (ps := ["script"]) (fun _ _ _ _ _ _ us hl => match us, hl with | [_], _ => rfl), m_law := PySem.W.mg_of X G a10, z_all := PySem.W.mg_none_of X G z_all, z_bool := PySem.W.mg_none_of X G z_bool, z_int := PySem.W.mg_none_of X G z_int, z_isinstance := PySem.W.mg_none_of X G z_isinstance, z_len := PySem.W.mg_none_of X G z_len, z_list := PySem.W.mg_none_of X G z_list, z_ord := PySem.W.mg_none_of X G z_ord, z_range := PySem.W.mg_none_of X G z_range, z_str := PySem.W.mg_none_of X G z_str, z_tuple := PySem.W.mg_none_of X G z_tuple }
  exact ⟨T.d_law, fun s v => .of_eq rfl, fun base _ _ => ok_law T⟩
end Own
open PySem PySem.W PyProof.Rows
set_option maxHeartbeats 0 in
theorem PySem.Challenge.cw_sureplay_k11_names_and_numbers_holds : PySem.Challenge.rw_sureplay_k11_names_and_numbers.Holds := by
  w_on; o_law; k_head; (case hw => w_witness2)
  k_fill
  refine L2.walk_of (l := PySem.Challenge.rw_sureplay_k11_names_and_numbers) (n := 63) (k := 9) (x := "script") (CX := fun _ => L2.CX0) (sp := fun w => Own.spLaw _) rfl (by decide) rfl ⟨rfl, by decide, by decide⟩ (fun w h Y => PySem.W.kIn_of Y) ?F (fun _ _ a ns hl _ hS => ⟨a, ns, rfl, hS, hl, fun _ => rfl⟩) (fun _ _ _ _ _ h => h)
  case F =>
    intro w mg fa h KX G hmg
    refine' Own.all_mk KX G hmg ?ac_LETTERS_AND_DIGITS ?ac_LETTERS ?ac_KEY_WORDS ?lk_KEY_WORDS ?ac_LONGEST_NAME ?ac_GREATEST_NUMBER ?ac_LONGEST_NUMBER ?a1 ?l1 ?c1 ?k1 ?a2 ?l2 ?c2 ?k2 ?a3 ?l3 ?c3 ?k3 ?a4 ?l4 ?c4 ?k4 ?a5 ?l5 ?c5 ?k5 ?a6 ?l6 ?c6 ?k6 ?a7 ?l7 ?c7 ?k7 ?a8 ?l8 ?c8 ?k8 ?a9 ?l9 ?c9 ?k9 ?a10 ?l10 ?c10 ?k10 ?z_all ?z_bool ?z_int ?z_isinstance ?z_len ?z_list ?z_ord ?z_range ?z_str ?z_tuple
    (case ac_LETTERS_AND_DIGITS => k_is)
    (case ac_LETTERS => k_is)
    (case ac_KEY_WORDS => k_is)
    (case ac_LONGEST_NAME => k_is)
    (case ac_GREATEST_NUMBER => k_is)
    (case ac_LONGEST_NUMBER => k_is)
    (case lk_KEY_WORDS => k_is)
    (case a1 => k_is)
    (case l1 => k_is)
    (case c1 => k_is)
    (case k1 => k_is)
    (case a2 => k_is)
    (case l2 => k_is)
    (case c2 => k_is)
    (case k2 => k_is)
    (case a3 => k_is)
    (case l3 => k_is)
    (case c3 => k_is)
    (case k3 => k_is)
    (case a4 => k_is)
    (case l4 => k_is)
    (case c4 => k_is)
    (case k4 => k_is)
    (case a5 => k_is)
    (case l5 => k_is)
    (case c5 => k_is)
    (case k5 => k_is)
    (case a6 => k_is)
    (case l6 => k_is)
    (case c6 => k_is)
    (case k6 => k_is)
    (case a7 => k_is)
    (case l7 => k_is)
    (case c7 => k_is)
    (case k7 => k_is)
    (case a8 => k_is)
    (case l8 => k_is)
    (case c8 => k_is)
    (case k8 => k_is)
    (case a9 => k_is)
    (case l9 => k_is)
    (case c9 => k_is)
    (case k9 => k_is)
    (case a10 => k_is)
    (case l10 => k_is)
    (case c10 => k_is)
    (case k10 => k_is)
    (case z_all => k_is)
    (case z_bool => k_is)
    (case z_int => k_is)
    (case z_isinstance => k_is)
    (case z_len => k_is)
    (case z_list => k_is)
    (case z_ord => k_is)
    (case z_range => k_is)
    (case z_str => k_is)
    (case z_tuple => k_is)
#print axioms PySem.Challenge.cw_sureplay_k11_names_and_numbers_holds
