import PyProof.Rows.All
import Wide.All
import OpenK.AllK
import Wide.FinOn
import HandS.TupAny
import HandS.ForMost
import HandS.IsInst
import HandS.Codes
import HandS.Gcd
import HandS.Wide
import HandS.Defaults
import HandS.SlotsOwn
import HandS.Walk
import HandS.Iter
import HandS.RevRange
import HandS.Star
import PySem.Challenge.RW_sureplay_k60_lots_that_were_given
set_option Elab.async false
set_option linter.all false
set_option maxRecDepth 100000
set_option maxHeartbeats 4000000
namespace Own
open PySem PySem.Spec PyProof.Rows L2
def topS (i : Nat) : Stmt := PySem.Challenge.pw_sureplay_k60_lots_that_were_given.main.body.getD i (.Pass ⟨0, 0, 0, 0⟩)
abbrev s_Ratio_init : Stmt := (inClass (topS 6) 0)
abbrev N_Ratio_init : List Str := ["self", "num", "den", "factor"]
theorem sc_Ratio_init : FnScope N_Ratio_init ["self", "num", "den"] (defScope s_Ratio_init) := ⟨rfl, rfl, rfl, by decide +kernel, rfl, by decide +kernel, by decide +kernel⟩
abbrev s_Ratio_add : Stmt := (inClass (topS 6) 1)
abbrev N_Ratio_add : List Str := ["self", "other"]
theorem sc_Ratio_add : FnScope N_Ratio_add ["self", "other"] (defScope s_Ratio_add) := ⟨rfl, rfl, rfl, by decide +kernel, rfl, by decide +kernel, by decide +kernel⟩
abbrev s_Tape_init : Stmt := (inClass (topS 8) 0)
abbrev N_Tape_init : List Str := ["self", "results"]
theorem sc_Tape_init : FnScope N_Tape_init ["self", "results"] (defScope s_Tape_init) := ⟨rfl, rfl, rfl, by decide +kernel, rfl, by decide +kernel, by decide +kernel⟩
abbrev s_Tape_take : Stmt := (inClass (topS 8) 1)
abbrev N_Tape_take : List Str := ["self", "count", "at", "result"]
theorem sc_Tape_take : FnScope N_Tape_take ["self", "count"] (defScope s_Tape_take) := ⟨rfl, rfl, rfl, by decide +kernel, rfl, by decide +kernel, by decide +kernel⟩
abbrev s_Tape_chance : Stmt := (inClass (topS 8) 2)
abbrev N_Tape_chance : List Str := ["self", "ways", "_", "count"]
theorem sc_Tape_chance : FnScope N_Tape_chance ["self"] (defScope s_Tape_chance) := ⟨rfl, rfl, rfl, by decide +kernel, rfl, by decide +kernel, by decide +kernel⟩
abbrev s_Tape_following : Stmt := (inClass (topS 8) 3)
abbrev N_Tape_following : List Str := ["self", "at", "result", "count", "earlier", "_"]
theorem sc_Tape_following : FnScope N_Tape_following ["self"] (defScope s_Tape_following) := ⟨rfl, rfl, rfl, by decide +kernel, rfl, by decide +kernel, by decide +kernel⟩
abbrev s_law_pool : Stmt := (topS 10)
abbrev N_law_pool : List Str := ["script", "budget"]
theorem sc_law_pool : FnScope N_law_pool ["script", "budget"] (defScope s_law_pool) := ⟨rfl, rfl, rfl, by decide +kernel, rfl, by decide +kernel, by decide +kernel⟩
abbrev s_law_draw : Stmt := (topS 11)
abbrev N_law_draw : List Str := ["pool", "size", "cell", "value"]
theorem sc_law_draw : FnScope N_law_draw ["pool", "size"] (defScope s_law_draw) := ⟨rfl, rfl, rfl, by decide +kernel, rfl, by decide +kernel, by decide +kernel⟩
abbrev s_law_number : Stmt := (topS 14)
abbrev N_law_number : List Str := ["pool"]
theorem sc_law_number : FnScope N_law_number ["pool"] (defScope s_law_number) := ⟨rfl, rfl, rfl, by decide +kernel, rfl, by decide +kernel, by decide +kernel⟩
abbrev s_law_same : Stmt := (topS 15)
abbrev N_law_same : List Str := ["actual", "due", "k"]
theorem sc_law_same : FnScope N_law_same ["actual", "due"] (defScope s_law_same) := ⟨rfl, rfl, rfl, by decide +kernel, rfl, by decide +kernel, by decide +kernel⟩
abbrev s_law_lowest : Stmt := (topS 16)
abbrev N_law_lowest : List Str := ["num", "den", "a", "b", "k", "c"]
theorem sc_law_lowest : FnScope N_law_lowest ["num", "den"] (defScope s_law_lowest) := ⟨rfl, rfl, rfl, by decide +kernel, rfl, by decide +kernel, by decide +kernel⟩
abbrev s_law_is_ratio : Stmt := (topS 17)
abbrev N_law_is_ratio : List Str := ["actual", "num", "den", "due"]
theorem sc_law_is_ratio : FnScope N_law_is_ratio ["actual", "num", "den"] (defScope s_law_is_ratio) := ⟨rfl, rfl, rfl, by decide +kernel, rfl, by decide +kernel, by decide +kernel⟩
abbrev s_law_following : Stmt := (topS 18)
abbrev N_law_following : List Str := ["taken", "k", "j"]
theorem sc_law_following : FnScope N_law_following ["taken"] (defScope s_law_following) := ⟨rfl, rfl, rfl, by decide +kernel, rfl, by decide +kernel, by decide +kernel⟩
abbrev s_law_told : Stmt := (topS 19)
abbrev N_law_told : List Str := ["tape", "taken", "ways", "row"]
theorem sc_law_told : FnScope N_law_told ["tape", "taken"] (defScope s_law_told) := ⟨rfl, rfl, rfl, by decide +kernel, rfl, by decide +kernel, by decide +kernel⟩
abbrev s_law_one : Stmt := (topS 20)
abbrev N_law_one : List Str := ["pool", "results", "passed", "tape", "taken", "k", "count", "result"]
theorem sc_law_one : FnScope N_law_one ["pool"] (defScope s_law_one) := ⟨rfl, rfl, rfl, by decide +kernel, rfl, by decide +kernel, by decide +kernel⟩
abbrev s_law : Stmt := (topS 21)
abbrev N_law : List Str := ["script", "pool", "counts", "ways", "k", "count", "results", "tape", "at", "place"]
theorem sc_law : FnScope N_law ["script"] (defScope s_law) := ⟨rfl, rfl, rfl, by decide +kernel, rfl, by decide +kernel, by decide +kernel⟩
def spLaw (K : PySem.W.Frag) : Sp := fun vs H Q _ => ∃ (a : Addr) (ns : List Int), vs = [.ref a] ∧ SqL K H a (ns.map V.int) ∧ ns.length ≤ 63 ∧ ∀ H', Q (.bl true) H'
def cell (ns : List Int) (k : Int) : Int := ns.getD k.toNat 0
theorem same_upd {H : Hp} {p : Addr} {o : HO} (h : H p = none) : Same H (upd H p o) := fun b x e => by
  rw [upd_ne (ne_of_none e h)]
  exact e
theorem cut_from (xs : List V) (k : Nat) : cutV xs (some (k : Int)) none = xs.drop k := by
  unfold cutV
  rw [HT.sIx_nat, HT.sIx_none]
  by_cases h : k ≤ xs.length
  · rw [Nat.min_eq_left h]
    exact List.take_of_length_le (by rw [List.length_drop]; omega)
  · rw [Nat.min_eq_right (by omega), List.drop_eq_nil_of_le (by omega), List.drop_eq_nil_of_le (by omega)]
    simp
theorem cut_to (xs : List V) (k : Nat) : cutV xs none (some (k : Int)) = xs.take k := by
  unfold cutV
  rw [HT.sIx_nat, HT.sIx_none, List.drop_zero, Nat.sub_zero]
  by_cases h : k ≤ xs.length
  · rw [Nat.min_eq_left h]
  · rw [Nat.min_eq_right (by omega), List.take_of_length_le (Nat.le_refl _), List.take_of_length_le (by omega)]
theorem cut_to' (xs : List V) (k : Int) (h : 0 ≤ k) : cutV xs none (some k) = xs.take k.toNat := by
  obtain ⟨m, rfl⟩ := Int.eq_ofNat_of_zero_le h
  exact cut_to xs m
theorem cut_from' (xs : List V) (k : Int) (h : 0 ≤ k) : cutV xs (some k) none = xs.drop k.toNat := by
  obtain ⟨m, rfl⟩ := Int.eq_ofNat_of_zero_le h
  exact cut_from xs m
theorem small_le {n : Nat} (h : n ≤ 1000) : n ≤ sizeLine := Nat.le_of_lt (small1000 h)
theorem at_ofG {α : Type} {xs : List α} {z : Int} {j : Nat} {v : α} (e : z = (j : Int)) (h : xs[j]? = some v) : atI xs z = some v := by
  rw [e]
  exact atI_nat h
theorem int_of_map {ns : List Int} {i : Nat} {y : V} (hi : (ns.map V.int)[i]? = some y) : ∃ z, ns[i]? = some z ∧ y = V.int z := by
  rw [List.getElem?_map] at hi
  cases e : ns[i]? with
  | none => rw [e] at hi; cases hi
  | some u => rw [e] at hi; exact ⟨u, rfl, (Option.some.inj hi).symm⟩
theorem dp_ints {K : PySem.W.Frag} {H : Hp} : ∀ ns : List Int, DpAll K H (ns.map V.int) (ns.map PyData.int)
  | [] => .nil
  | n :: r => .cons (.int n) (dp_ints r)
theorem lay_ints : ∀ ns : List Int, PyData.canLayAll0 (ns.map PyData.int) = true ∧ PyData.depthAll (ns.map PyData.int) = 0
  | [] => ⟨by simp [PyData.canLayAll0], by simp [PyData.depthAll]⟩
  | n :: r => by
    have ih := lay_ints r
    exact ⟨by simp [PyData.canLayAll0, PyData.canLay0, ih.1], by simp [PyData.depthAll, PyData.depth, ih.2]⟩
theorem shaped_ints (ns : List Int) : SeqAt.shaped (.list (ns.map PyData.int)) = true := by
  have h := lay_ints ns
  unfold SeqAt.shaped
  simp [PyData.canLay0, PyData.depth, h.1, h.2]
theorem eqv_ints (ns : List Int) : PyData.eqv (.list (ns.map PyData.int)) (.list (ns.map PyData.int)) = true :=
  SeqAt.eqv_refl _ (by rw [PyData.canLay0]; exact (lay_ints ns).1)

mutual
/-- data that never changes: scalars and tracked tuples of such -/
inductive Im (H : Hp) : V → PyData → Prop
  | non : Im H .non .none
  | bl (b : Bool) : Im H (.bl b) (.bool b)
  | int (i : Int) : Im H (.int i) (.int i)
  | str (x : Str) : Im H (.str x) (.str x)
  | tup {a : Addr} {xs : List V} {ds : List PyData} : H a = some (.tup xs) → ImAll H xs ds → Im H (.ref a) (.tuple ds)
inductive ImAll (H : Hp) : List V → List PyData → Prop
  | nil : ImAll H [] []
  | cons {v : V} {vs : List V} {d : PyData} {ds : List PyData} : Im H v d → ImAll H vs ds → ImAll H (v :: vs) (d :: ds)
end
/-- the tracked tuples stay -/
def KeepT (H H' : Hp) : Prop := ∀ b xs, H b = some (.tup xs) → H' b = some (.tup xs)
theorem KeepT.refl (H : Hp) : KeepT H H := fun _ _ h => h
theorem KeepT.trans {H H1 H2 : Hp} (a : KeepT H H1) (b : KeepT H1 H2) : KeepT H H2 := fun c x h => b c x (a c x h)
theorem keepT_of {H H' : Hp} (s : Same H H') : KeepT H H' := fun b xs h => s b _ h
theorem keepT_lst {H : Hp} {p : Addr} {xs ys : List V} (h : H p = some (.lst xs)) : KeepT H (upd H p (.lst ys)) := fun b zs e => by
  have n : b ≠ p := fun q => by rw [q, h] at e; cases e
  rw [upd_ne n]
  exact e
mutual
theorem Im.keep {H H' : Hp} (k : KeepT H H') : ∀ {v : V} {d : PyData}, Im H v d → Im H' v d
  | _, _, .non => .non
  | _, _, .bl b => .bl b
  | _, _, .int i => .int i
  | _, _, .str x => .str x
  | _, _, .tup h a => .tup (k _ _ h) (ImAll.keep k a)
theorem ImAll.keep {H H' : Hp} (k : KeepT H H') : ∀ {vs : List V} {ds : List PyData}, ImAll H vs ds → ImAll H' vs ds
  | _, _, .nil => .nil
  | _, _, .cons h a => .cons (Im.keep k h) (ImAll.keep k a)
end
mutual
theorem Im.dp {K : PySem.W.Frag} {H : Hp} : ∀ {v : V} {d : PyData}, Im H v d → Dp K H v d
  | _, _, .non => .non
  | _, _, .bl b => .bl b
  | _, _, .int i => .int i
  | _, _, .str x => .str x
  | _, _, .tup h a => .tup (SqT.of h) (ImAll.dp a)
theorem ImAll.dp {K : PySem.W.Frag} {H : Hp} : ∀ {vs : List V} {ds : List PyData}, ImAll H vs ds → DpAll K H vs ds
  | _, _, .nil => .nil
  | _, _, .cons h a => .cons (Im.dp h) (ImAll.dp a)
end
theorem ImAll.len {H : Hp} : ∀ {vs : List V} {ds : List PyData}, ImAll H vs ds → vs.length = ds.length
  | _, _, .nil => rfl
  | _, _, .cons _ a => by rw [List.length_cons, List.length_cons, ImAll.len a]
theorem ImAll.append {H : Hp} : ∀ {vs us : List V} {ds es : List PyData}, ImAll H vs ds → ImAll H us es → ImAll H (vs ++ us) (ds ++ es)
  | _, _, _, _, .nil, b => b
  | _, _, _, _, .cons h a, b => .cons h (ImAll.append a b)
theorem ImAll.get {H : Hp} : ∀ {vs : List V} {ds : List PyData} {i : Nat} {d : PyData}, ImAll H vs ds → ds[i]? = some d → ∃ v, vs[i]? = some v ∧ Im H v d
  | _, _, 0, _, .cons h _, e => by
    cases e
    exact ⟨_, rfl, h⟩
  | _, _, i + 1, _, .cons _ a, e => by
    rw [List.getElem?_cons_succ] at e
    rw [List.getElem?_cons_succ]
    exact ImAll.get a e
theorem ImAll.take {H : Hp} : ∀ {vs : List V} {ds : List PyData} (i : Nat), ImAll H vs ds → ImAll H (vs.take i) (ds.take i)
  | _, _, 0, _ => by
    rw [List.take_zero, List.take_zero]
    exact .nil
  | _, _, _ + 1, .nil => by
    rw [List.take_nil, List.take_nil]
    exact .nil
  | _, _, i + 1, .cons h a => .cons h (ImAll.take i a)
theorem ImAll.snoc {H : Hp} {vs : List V} {ds : List PyData} {v : V} {d : PyData} (a : ImAll H vs ds) (h : Im H v d) : ImAll H (vs ++ [v]) (ds ++ [d]) := a.append (.cons h .nil)
theorem ImAll.rev {H : Hp} : ∀ {vs : List V} {ds : List PyData}, ImAll H vs ds → ImAll H vs.reverse ds.reverse
  | _, _, .nil => .nil
  | _, _, .cons h a => by
    rw [List.reverse_cons, List.reverse_cons]
    exact (ImAll.rev a).snoc h
mutual
/-- all sequences are short -/
def wide : PyData → Bool
  | .list xs => decide (xs.length ≤ 1000000) && wideAll xs
  | .tuple xs => decide (xs.length ≤ 1000000) && wideAll xs
  | .none => true
  | .bool _ => true
  | .int _ => true
  | .str _ => true
  | .dict _ => false
def wideAll : List PyData → Bool
  | [] => true
  | x :: r => wide x && wideAll r
end
/-- what a comparison asks of data: sizes -/
def Lay (n : Nat) (d : PyData) : Prop := d.canLay0 = true ∧ d.depth ≤ n ∧ wide d = true
theorem lay_all : ∀ {n : Nat} {ds : List PyData}, (∀ d ∈ ds, Lay n d) → PyData.canLayAll0 ds = true ∧ PyData.depthAll ds ≤ n ∧ wideAll ds = true
  | n, [], _ => ⟨by simp [PyData.canLayAll0], by simp [PyData.depthAll], by simp [wideAll]⟩
  | n, d :: r, h => by
    have h1 := h d List.mem_cons_self
    have h2 := lay_all fun e he => h e (List.mem_cons_of_mem d he)
    refine ⟨by simp [PyData.canLayAll0, h1.1, h2.1], ?_, by simp [wideAll, h1.2.2, h2.2.2]⟩
    simp only [PyData.depthAll]
    exact Nat.max_le.mpr ⟨h1.2.1, h2.2.1⟩
theorem lay_tuple {n : Nat} {ds : List PyData} (hl : ds.length ≤ 1000000) (h : ∀ d ∈ ds, Lay n d) : Lay (n + 1) (.tuple ds) := by
  have q := lay_all h
  exact ⟨by simp [PyData.canLay0, q.1], by simp only [PyData.depth]; omega, by simp only [wide, q.2.2, decide_eq_true hl]; rfl⟩
theorem lay_list {n : Nat} {ds : List PyData} (hl : ds.length ≤ 1000000) (h : ∀ d ∈ ds, Lay n d) : Lay (n + 1) (.list ds) := by
  have q := lay_all h
  exact ⟨by simp [PyData.canLay0, q.1], by simp only [PyData.depth]; omega, by simp only [wide, q.2.2, decide_eq_true hl]; rfl⟩
theorem Lay.mono {n m : Nat} {d : PyData} (h : Lay n d) (l : n ≤ m) : Lay m d := ⟨h.1, Nat.le_trans h.2.1 l, h.2.2⟩
theorem Lay.shaped {n : Nat} {d : PyData} (h : Lay n d) (l : n ≤ 64) : SeqAt.shaped d = true := by
  unfold SeqAt.shaped
  rw [h.1, decide_eq_true (Nat.le_trans h.2.1 l)]
  rfl
theorem Lay.refl {n : Nat} {d : PyData} (h : Lay n d) : PyData.eqv d d = true := SeqAt.eqv_refl _ h.1
theorem lay_int (i : Int) : Lay 0 (.int i) := ⟨by simp [PyData.canLay0], by simp [PyData.depth], by simp [wide]⟩
theorem lay_str {x : Str} (h : PyData.strOk x = true) : Lay 0 (.str x) := ⟨by simp [PyData.canLay0, h], by simp [PyData.depth], by simp [wide]⟩
theorem lay_none : Lay 0 .none := ⟨by simp [PyData.canLay0], by simp [PyData.depth], by simp [wide]⟩
theorem lay_bool (b : Bool) : Lay 0 (.bool b) := ⟨by simp [PyData.canLay0], by simp [PyData.depth], by simp [wide]⟩
theorem wide_get {ds : List PyData} {i : Nat} {d : PyData} : wideAll ds = true → ds[i]? = some d → wide d = true := by
  induction ds generalizing i with
  | nil => intro _ h; simp at h
  | cons x r ih =>
    intro hw h
    simp only [wideAll, Bool.and_eq_true] at hw
    cases i with
    | zero => cases h; exact hw.1
    | succ i => exact ih (i := i) hw.2 (by rw [List.getElem?_cons_succ] at h; exact h)
/-- view + (event,) -/
theorem cat_ev {K : PySem.W.Frag} {H : Hp} {v t u : Addr} {xs : List V} {ds : List PyData} {e : PyData} {Q : VK} (hv : H v = some (.tup xs)) (hA : ImAll H xs ds) (he : Im H (.ref t) e) (hu : H u = some (.tup [.ref t])) (hz : xs.length ≤ 900)
    (k : ∀ (p : Addr) (H' : Hp), Same H H' → Im H' (.ref p) (.tuple (ds ++ [e])) → Q (.ref p) H') : rCatA K (.ref v) (.ref u) H Q := by
  refine ⟨v, u, xs, [.ref t], rfl, rfl, SqT.of hv, SqT.of hu, by show xs.length + 1 ≤ sizeLine; exact small_le (by omega), fun z => ?_, fun _ z => (by cases z), fun _ _ p hp => ?_⟩
  · subst z
    cases hA
    exact k u H (Same.refl H) (.tup hu (.cons he .nil))
  · exact k p _ (same_upd hp) (.tup upd_same ((hA.snoc he).keep (keepT_of (same_upd hp))))
theorem upd2_same {H : Hp} {t u : Addr} {o o' : HO} (ht : H t = none) (hu : upd H t o u = none) : Same H (upd (upd H t o) u o') := (same_upd ht).trans (same_upd hu)


/-- the drawing pool at p: the script's cells at c, five numbers -/
def Pool (H : Hp) (p c : Addr) (b : Int) : Prop := ∃ (ns : List Int) (i r s t : Int), H p = some (.lst [.ref c, .int i, .int r, .int s, .int t, .int b]) ∧ H c = some (.lst (ns.map V.int)) ∧ 0 ≤ i ∧ c ≠ p
def But (p : Addr) (H H' : Hp) : Prop := ∀ b o, b ≠ p → H b = some o → H' b = some o
theorem But.refl (p : Addr) (H : Hp) : But p H H := fun _ _ _ h => h
theorem But.trans {p : Addr} {H H1 H2 : Hp} (a : But p H H1) (b : But p H1 H2) : But p H H2 := fun c o n h => b c o n (a c o n h)
theorem but_of {p : Addr} {H H' : Hp} (s : Same H H') : But p H H' := fun b o _ h => s b o h
theorem but_upd {p : Addr} {H : Hp} {o : HO} : But p H (upd H p o) := fun b x n e => by rw [upd_ne n]; exact e
/-- what stood before the list at p was made stays -/
theorem But.same {p : Addr} {H0 H H' : Hp} (b : But p H H') (s : Same H0 H) (n : H0 p = none) : Same H0 H' := fun c o e => b c o (ne_of_none e n) (s c o e)
theorem But.keepT {p : Addr} {xs : List V} {H H' : Hp} (b : But p H H') (h : H p = some (.lst xs)) : KeepT H H' := fun c ys e => b c _ (fun z => by rw [z, h] at e; cases e) e
theorem Pool.keepT {p c : Addr} {b : Int} {H H' : Hp} (h : Pool H p c b) (k : But p H H') : KeepT H H' := by
  obtain ⟨ns, i, r, s, t, hp, _⟩ := h
  exact k.keepT hp
theorem Pool.same {p c : Addr} {b : Int} {H H' : Hp} (h : Pool H p c b) (k : Same H H') : Pool H' p c b := by
  obtain ⟨ns, i, r, s, t, hp, hc, h0, n⟩ := h
  exact ⟨ns, i, r, s, t, k _ _ hp, k _ _ hc, h0, n⟩
theorem Pool.upd {p c q : Addr} {b : Int} {H : Hp} (h : Pool H p c b) (n1 : q ≠ p) (n2 : q ≠ c) (o : HO) : Pool (L2.upd H q o) p c b := by
  obtain ⟨ns, i, r, s, t, hp, hc, h0, n⟩ := h
  exact ⟨ns, i, r, s, t, by rw [upd_ne n1.symm]; exact hp, by rw [upd_ne n2.symm]; exact hc, h0, n⟩
theorem Pool.ne2 {p c q : Addr} {b : Int} {H : Hp} (h : Pool H p c b) (e : H q = none) : q ≠ c := by
  obtain ⟨ns, i, r, s, t, hp, hc, _⟩ := h
  exact fun z => by rw [z, hc] at e; cases e
theorem Pool.ne {p c q : Addr} {b : Int} {H : Hp} (h : Pool H p c b) (e : H q = none) : q ≠ p := by
  obtain ⟨ns, i, r, s, t, hp, _⟩ := h
  exact fun z => by rw [z, hp] at e; cases e
/-- data of any make: tuples and lists that are tracked -/
inductive Da (H : Hp) : V → PyData → Prop
  | non : Da H .non .none
  | bl (b : Bool) : Da H (.bl b) (.bool b)
  | int (i : Int) : Da H (.int i) (.int i)
  | str (x : Str) : Da H (.str x) (.str x)
  | tup {a : Addr} {xs : List V} {ds : List PyData} : H a = some (.tup xs) → xs.length = ds.length → (∀ (i : Nat) v d, xs[i]? = some v → ds[i]? = some d → Da H v d) → Da H (.ref a) (.tuple ds)
  | lst {a : Addr} {xs : List V} {ds : List PyData} : H a = some (.lst xs) → xs.length = ds.length → (∀ (i : Nat) v d, xs[i]? = some v → ds[i]? = some d → Da H v d) → Da H (.ref a) (.list ds)
mutual
theorem Im.da {H : Hp} : ∀ {v : V} {d : PyData}, Im H v d → Da H v d
  | _, _, .non => .non
  | _, _, .bl b => .bl b
  | _, _, .int i => .int i
  | _, _, .str x => .str x
  | _, _, .tup h a => .tup h a.len (ImAll.da a)
theorem ImAll.da {H : Hp} : ∀ {vs : List V} {ds : List PyData}, ImAll H vs ds → ∀ (i : Nat) v d, vs[i]? = some v → ds[i]? = some d → Da H v d
  | _, _, .nil => fun i v d h _ => by simp at h
  | _, _, .cons h a => fun i v d h1 h2 => match i, h1, h2 with
    | 0, h1, h2 => by
      cases h1
      cases h2
      exact Im.da h
    | i + 1, h1, h2 => ImAll.da a i v d (by rw [List.getElem?_cons_succ] at h1; exact h1) (by rw [List.getElem?_cons_succ] at h2; exact h2)
end
theorem Da.strs {H : Hp} {a : Addr} {ys : List Str} (h : H a = some (.lst (ys.map V.str))) : Da H (.ref a) (.list (ys.map PyData.str)) := by
  refine .lst h (by rw [List.length_map, List.length_map]) fun i v d h1 h2 => ?_
  rw [List.getElem?_map] at h1 h2
  cases e : ys[i]? with
  | none => rw [e] at h1; cases h1
  | some y =>
    rw [e] at h1 h2
    cases h1
    cases h2
    exact .str y
theorem depth_get {ds : List PyData} {i : Nat} {d : PyData} : ds[i]? = some d → d.depth ≤ PyData.depthAll ds := by
  induction ds generalizing i with
  | nil => intro h; simp at h
  | cons x r ih =>
    intro h
    simp only [PyData.depthAll]
    cases i with
    | zero => cases h; exact Nat.le_max_left _ _
    | succ i => exact Nat.le_trans (ih (i := i) (by rw [List.getElem?_cons_succ] at h; exact h)) (Nat.le_max_right _ _)

/-! ### fractions -/
/-- p / q is num / den in lowest terms -/
def Rt (p q num den : Int) : Prop := 0 < q ∧ Nat.gcd p.natAbs q.natAbs = 1 ∧ p * den = num * q
theorem natAbs_eq_of_mul {p q : Int} (hq : 0 < q) (h : Nat.gcd p.natAbs q.natAbs = 1) {p' q' : Int} (hq' : 0 < q') (h' : Nat.gcd p'.natAbs q'.natAbs = 1) (e : p * q' = p' * q) : p = p' ∧ q = q' := by
  have en : p.natAbs * q'.natAbs = p'.natAbs * q.natAbs := by rw [← Int.natAbs_mul, ← Int.natAbs_mul, e]
  have d1 : q.natAbs ∣ q'.natAbs := by
    have c : Nat.Coprime q.natAbs p.natAbs := by rw [Nat.coprime_comm]; exact h
    exact c.dvd_of_dvd_mul_left ⟨p'.natAbs, by rw [en, Nat.mul_comm]⟩
  have d2 : q'.natAbs ∣ q.natAbs := by
    have c : Nat.Coprime q'.natAbs p'.natAbs := by rw [Nat.coprime_comm]; exact h'
    exact c.dvd_of_dvd_mul_left ⟨p.natAbs, by rw [← en, Nat.mul_comm]⟩
  have eq : q.natAbs = q'.natAbs := Nat.dvd_antisymm d1 d2
  have eq' : q = q' := by omega
  refine ⟨?_, eq'⟩
  rw [eq'] at e
  exact Int.eq_of_mul_eq_mul_right (by omega) e
theorem rt_uniq {p q p' q' n d n' d' : Int} (h : Rt p q n d) (h' : Rt p' q' n' d') (hd : d ≠ 0) (hd' : d' ≠ 0) (e : n * d' = n' * d) : p = p' ∧ q = q' := by
  obtain ⟨h1, h2, h3⟩ := h
  obtain ⟨g1, g2, g3⟩ := h'
  refine natAbs_eq_of_mul h1 h2 g1 g2 ?_
  have k : (p * q') * (d * d') = (p' * q) * (d * d') := by
    grind
  exact Int.eq_of_mul_eq_mul_right (Int.mul_ne_zero hd hd') k
/-- the sign and the common divisor -/
def fac (n d : Int) : Int := if d < 0 then -((Nat.gcd n.natAbs d.natAbs : Nat) : Int) else ((Nat.gcd n.natAbs d.natAbs : Nat) : Int)
theorem gcd_pos' {n d : Int} (hd : d ≠ 0) : 0 < Nat.gcd n.natAbs d.natAbs := Nat.gcd_pos_of_pos_right _ (Int.natAbs_pos.mpr hd)
theorem fac_ne {n d : Int} (hd : d ≠ 0) : fac n d ≠ 0 := by
  have := gcd_pos' (n := n) hd
  unfold fac
  split <;> omega
theorem fac_abs (n d : Int) : (fac n d).natAbs = Nat.gcd n.natAbs d.natAbs := by
  unfold fac
  split <;> omega
theorem fac_dvd (n d : Int) : fac n d ∣ n ∧ fac n d ∣ d := by
  have h1 : ((Nat.gcd n.natAbs d.natAbs : Nat) : Int) ∣ n := Int.ofNat_dvd_left.mpr (Nat.gcd_dvd_left _ _)
  have h2 : ((Nat.gcd n.natAbs d.natAbs : Nat) : Int) ∣ d := Int.ofNat_dvd_left.mpr (Nat.gcd_dvd_right _ _)
  unfold fac
  split
  · exact ⟨(Int.neg_dvd).mpr h1, (Int.neg_dvd).mpr h2⟩
  · exact ⟨h1, h2⟩
theorem rt_made {n d : Int} (hd : d ≠ 0) : Rt (n.fdiv (fac n d)) (d.fdiv (fac n d)) n d ∧ (n.fdiv (fac n d)).natAbs ≤ n.natAbs ∧ (d.fdiv (fac n d)).natAbs ≤ d.natAbs := by
  have hf := fac_ne (n := n) hd
  obtain ⟨⟨a, ha⟩, ⟨b, hb⟩⟩ := fac_dvd n d
  have fa := fac_abs n d
  have gp := gcd_pos' (n := n) hd
  generalize hfe : fac n d = f at hf ha hb fa
  have e1 : n.fdiv f = a := by rw [ha]; exact Int.mul_fdiv_cancel_left a hf
  have e2 : d.fdiv f = b := by rw [hb]; exact Int.mul_fdiv_cancel_left b hf
  rw [e1, e2]
  have na : n.natAbs = f.natAbs * a.natAbs := by rw [ha, Int.natAbs_mul]
  have nb : d.natAbs = f.natAbs * b.natAbs := by rw [hb, Int.natAbs_mul]
  have fpos : 0 < f.natAbs := by omega
  refine ⟨⟨?_, ?_, ?_⟩, ?_, ?_⟩
  · -- the sign
    have hs : (d < 0 ∧ f < 0) ∨ (0 < d ∧ 0 < f) := by
      unfold fac at hfe
      split at hfe <;> omega
    rcases hs with ⟨h1, h2⟩ | ⟨h1, h2⟩
    · refine Int.not_le.mp fun z => ?_
      have := Int.mul_nonneg_of_nonpos_of_nonpos (Int.le_of_lt h2) z
      omega
    · refine Int.not_le.mp fun z => ?_
      have := Int.mul_nonpos_of_nonneg_of_nonpos (Int.le_of_lt h2) z
      omega
  · have e : Nat.gcd n.natAbs d.natAbs = f.natAbs * Nat.gcd a.natAbs b.natAbs := by rw [na, nb, Nat.gcd_mul_left]
    rw [← fa] at e
    have : f.natAbs * 1 = f.natAbs * Nat.gcd a.natAbs b.natAbs := by rw [Nat.mul_one]; exact e
    exact (Nat.eq_of_mul_eq_mul_left fpos this).symm
  · have x : a * d = n * b := by rw [hb, ha, ← Int.mul_assoc, Int.mul_comm a f]
    exact x
  · rw [na]
    exact Nat.le_mul_of_pos_left _ fpos
  · rw [nb]
    exact Nat.le_mul_of_pos_left _ fpos
theorem Rt.pos {p q n d : Int} (h : Rt p q n d) : 0 < q := h.1
theorem op_fdivX {X : Cx} : OpR X (binaryOp .FloorDiv) (rI (fun _ j => j ≠ 0 ∧ j.natAbs.log2 < 9000) fun i j => .int (i.fdiv j)) :=
  opI fun _ _ _ _ _ _ _ hc q => floordiv_int hc.1 q (.inl (PyProof.noPylong_of_log2 hc.2))
theorem log_lt {j : Int} {b : Nat} (hb : j.natAbs < 2 ^ b) (h0 : 0 < b) (h9 : b ≤ 9000) : j.natAbs.log2 < 9000 := Nat.lt_of_lt_of_le (PySem.Flt.log2_lt_of h0 hb) h9
/-! ### ratios as objects -/
def pf (p q : Int) : List (Str × V) := putF "den" (.int q) (putF "num" (.int p) [])
theorem nd_ : ¬ (("num" : Str) = "den") := by decide +kernel
theorem pf_num (p q : Int) : (pf p q).lookup ("num" : Str) = some (.int p) := by
  unfold pf
  rw [lookup_putF, if_neg nd_, lookup_putF, if_pos rfl]
theorem pf_den (p q : Int) : (pf p q).lookup ("den" : Str) = some (.int q) := by
  unfold pf
  rw [lookup_putF, if_pos rfl]
theorem pf_no (p q : Int) {m : Str} (h1 : ¬ m = "num") (h2 : ¬ m = "den") : (pf p q).lookup m = none := by
  unfold pf
  rw [lookup_putF, if_neg h2, lookup_putF, if_neg h1]
  rfl
/-- at r a ratio p / q -/
def RatAt (C : Addr) (H : Hp) (r : Addr) (p q : Int) : Prop := ∃ dx, H r = some (.ins C dx (pf p q))
theorem no_below (p q : Int) : (pf p q).lookup ("below" : Str) = none := pf_no _ _ (by decide +kernel) (by decide +kernel)
theorem no_at_most (p q : Int) : (pf p q).lookup ("at_most" : Str) = none := pf_no _ _ (by decide +kernel) (by decide +kernel)
theorem no_over (p q : Int) : (pf p q).lookup ("over" : Str) = none := pf_no _ _ (by decide +kernel) (by decide +kernel)
theorem no_sign (p q : Int) : (pf p q).lookup ("sign" : Str) = none := pf_no _ _ (by decide +kernel) (by decide +kernel)
theorem RatAt.same {C : Addr} {H H' : Hp} {r : Addr} {p q : Int} (h : RatAt C H r p q) (s : Same H H') : RatAt C H' r p q := by
  obtain ⟨dx, e⟩ := h
  exact ⟨dx, s _ _ e⟩
/-- an operator of an own class: both are its instances -/
def rBin (C : Addr) (sp : Sp) (E : XK) : R2 := fun x y H Q => ∃ a dx fs b dy gs, x = .ref a ∧ y = .ref b ∧ H a = some (.ins C dx fs) ∧ H b = some (.ins C dy gs) ∧ sp [x, y] H Q E
theorem op_bin {X : Cx} {op : Operator} {C g : Addr} {n : Nat} {fd : FuncData} {ps : List Str} {sp : Sp} {E : XK} {CX : CXT} (hc : PySem.W.selfFirst X.K C = true) (m : Meth X.K C (PySem.dunder op.info.2) g)
    (F : FnOk X.prog X.w X.K X.mg X.base CX n g fd ps sp) (hr : Room n X.A) (hb : Binds X.K fd ps []) (hx : Passes CX X E) : OpR X (binaryOp op) (rBin C sp E) := by
  intro pins s σ H x y v u Q I rx ry h
  obtain ⟨a, dx, fs, b, dy, gs, rfl, rfl, ha, hb', q⟩ := h
  cases (show v = Value.ref a from rx)
  cases (show u = Value.ref b from ry)
  obtain ⟨mA, O, _⟩ := ins_get I.hok ha
  obtain ⟨od, J, _⟩ := O.look
  obtain ⟨mA', O', _⟩ := ins_get I.hok hb'
  obtain ⟨od', J', _⟩ := O'.look
  obtain ⟨mm, hF⟩ := I.fr
  refine PySem.W.binop_K hF I.ok.mod.kin J J'.type hc m.at_ m.fn ?_
  refine wpAny_mono (run_fn (vs := [.ref a, .ref b]) (dvs := []) (ds := []) F hr hb .nil hx I (.cons rfl (.cons rfl .nil)) q) (fun w s' z => ?_) fun _ _ x => x
  obtain ⟨z', H', I', rz, qz⟩ := z
  exact SlX.cmpback rz ⟨z', H', I', rz, qz⟩
def rNeg (C : Addr) (sp : Sp) (E : XK) : V → Hp → VK → Prop := fun x H Q => ∃ a dx fs, x = .ref a ∧ H a = some (.ins C dx fs) ∧ sp [x] H Q E
theorem un_own {X : Cx} {C g : Addr} {n : Nat} {fd : FuncData} {ps : List Str} {sp : Sp} {E : XK} {CX : CXT} (m : Meth X.K C "__neg__" g)
    (F : FnOk X.prog X.w X.K X.mg X.base CX n g fd ps sp) (hr : Room n X.A) (hb : Binds X.K fd ps []) (hx : Passes CX X E) : UnR X (unaryOp .USub) (rNeg C sp E) := by
  intro pins s σ H x v Q I rx h
  obtain ⟨a, dx, fs, rfl, ha, q⟩ := h
  cases (show v = Value.ref a from rx)
  obtain ⟨mA, O, _⟩ := ins_get I.hok ha
  obtain ⟨od, J, _⟩ := O.look
  obtain ⟨mm, hF⟩ := I.fr
  refine PySem.W.ksp_neg hF I.ok.mod.kin J m.at_ m.fn ?_
  exact run_fn (vs := [.ref a]) (dvs := []) (ds := []) F hr hb .nil hx I (.cons rfl .nil) q
theorem op_cmp {X : Cx} {op : CmpOp} {C g : Addr} {n : Nat} {fd : FuncData} {ps : List Str} {sp : Sp} {E : XK} {CX : CXT} (hop : ∀ a b, compareOp op a b = richCompare op a b) (m : Meth X.K C (PySem.cmpInfo op).2.1 g)
    (F : FnOk X.prog X.w X.K X.mg X.base CX n g fd ps sp) (hr : Room n X.A) (hb : Binds X.K fd ps []) (hx : Passes CX X E) : OpR X (compareOp op) (rBin C sp E) := by
  intro pins s σ H x y v u Q I rx ry h
  obtain ⟨a, dx, fs, b, dy, gs, rfl, rfl, ha, hb', q⟩ := h
  cases (show v = Value.ref a from rx)
  cases (show u = Value.ref b from ry)
  obtain ⟨mA, O, _⟩ := ins_get I.hok ha
  obtain ⟨od, J, _⟩ := O.look
  obtain ⟨mA', O', _⟩ := ins_get I.hok hb'
  obtain ⟨od', J', _⟩ := O'.look
  obtain ⟨mm, hF⟩ := I.fr
  rw [hop]
  refine PySem.W.cmp_K (op := op) (tb := .ref C) hr.units0 hF I.ok.mod.kin J J'.type (by unfold PySem.W.notFirst; simp) m.at_ m.fn ?_
  refine wpAny_mono (run_fn (vs := [.ref a, .ref b]) (dvs := []) (ds := []) F hr hb .nil hx I (.cons rfl (.cons rfl .nil)) q) (fun w s' z => ?_) fun _ _ x => x
  obtain ⟨z', H', I', rz, qz⟩ := z
  exact SlX.cmpback rz ⟨z', H', I', rz, qz⟩
theorem rt_of {p q n d n' d' : Int} (h : Rt p q n d) (hd : d ≠ 0) (e : n * d' = n' * d) : Rt p q n' d' := by
  obtain ⟨h1, h2, h3⟩ := h
  refine ⟨h1, h2, Int.eq_of_mul_eq_mul_right hd ?_⟩
  grind
theorem lt_of {x : Int} {a b : Nat} (h : x.natAbs < 2 ^ a) (l : a ≤ b) : x.natAbs < 2 ^ b := Nat.lt_of_lt_of_le h (Nat.pow_le_pow_right (by decide) l)
theorem add_lt {x y : Int} {a : Nat} (h : x.natAbs < 2 ^ a) (g : y.natAbs < 2 ^ a) : (x + y).natAbs < 2 ^ (a + 1) := by
  rw [Nat.pow_succ]
  omega
theorem sub_lt {x y : Int} {a : Nat} (h : x.natAbs < 2 ^ a) (g : y.natAbs < 2 ^ a) : (x - y).natAbs < 2 ^ (a + 1) := by
  rw [Nat.pow_succ]
  omega
theorem rt_lt {p q u v a b c d : Int} (h : Rt p q a b) (g : Rt u v c d) (hb : 0 < b) (hd : 0 < d) : (p * v < u * q ↔ a * d < c * b) ∧ (p * v ≤ u * q ↔ a * d ≤ c * b) ∧ ((p = u ∧ q = v) ↔ a * d = c * b) := by
  obtain ⟨q0, _, e1⟩ := id h
  obtain ⟨v0, _, e2⟩ := id g
  have k1 : (p * v) * (b * d) = (a * d) * (q * v) := by grind
  have k2 : (u * q) * (b * d) = (c * b) * (q * v) := by grind
  have h1 : 0 < b * d := Int.mul_pos hb hd
  have h2 : 0 < q * v := Int.mul_pos q0 v0
  refine ⟨?_, ?_, ?_⟩
  · rw [← Int.mul_lt_mul_right h1, k1, k2, Int.mul_lt_mul_right h2]
  · rw [← Int.mul_le_mul_right h1, k1, k2, Int.mul_le_mul_right h2]
  · constructor
    · rintro ⟨rfl, rfl⟩
      have := k1.symm.trans k2
      exact Int.eq_of_mul_eq_mul_right (by omega) this
    · intro e
      exact rt_uniq h g (by omega) (by omega) e

/-! ### lists of tracked things beside lists of numbers -/
theorem pget {α β : Type} {R : α → β → Prop} : ∀ {xs : List α} {ys : List β} {i : Nat} {x : α}, Paired R xs ys → xs[i]? = some x → ∃ y, ys[i]? = some y ∧ R x y
  | _, _, i, x, .nil, e => by simp at e
  | _, _, 0, x, .cons r _, e => by
    cases e
    exact ⟨_, rfl, r⟩
  | _, _, i + 1, x, .cons _ t, e => by
    rw [List.getElem?_cons_succ] at e
    rw [List.getElem?_cons_succ]
    exact pget t e
theorem pget' {α β : Type} {R : α → β → Prop} : ∀ {xs : List α} {ys : List β} {i : Nat} {y : β}, Paired R xs ys → ys[i]? = some y → ∃ x, xs[i]? = some x ∧ R x y
  | _, _, i, x, .nil, e => by simp at e
  | _, _, 0, x, .cons r _, e => by
    cases e
    exact ⟨_, rfl, r⟩
  | _, _, i + 1, x, .cons _ t, e => by
    rw [List.getElem?_cons_succ] at e
    rw [List.getElem?_cons_succ]
    exact pget' t e
/-- the instances stay -/
def KeepI (H H' : Hp) : Prop := ∀ b C dx fs, H b = some (.ins C dx fs) → H' b = some (.ins C dx fs)
theorem keepI_of {H H' : Hp} (s : Same H H') : KeepI H H' := fun b _ _ _ h => s b _ h
theorem KeepI.trans {H H1 H2 : Hp} (a : KeepI H H1) (b : KeepI H1 H2) : KeepI H H2 := fun c x y z h => b c x y z (a c x y z h)
theorem keepI_lst {H : Hp} {p : Addr} {xs ys : List V} (h : H p = some (.lst xs)) : KeepI H (upd H p (.lst ys)) := fun b C dx fs e => by
  have n : b ≠ p := fun q => by rw [q, h] at e; cases e
  rw [upd_ne n]
  exact e
/-- a tuple of two ints -/
def TupV (H : Hp) (v : V) (t : Int × Int) : Prop := ∃ a, v = .ref a ∧ H a = some (.tup [.int t.1, .int t.2])
theorem TupV.keep {H H' : Hp} (k : KeepT H H') {v : V} {t : Int × Int} (h : TupV H v t) : TupV H' v t := by
  obtain ⟨a, e, q⟩ := h
  exact ⟨a, e, k _ _ q⟩
/-- a ratio made of num and den -/
def RatT (C : Addr) (H : Hp) (v : V) (t : Int × Int) : Prop := ∃ a p q, v = .ref a ∧ RatAt C H a p q ∧ Rt p q t.1 t.2 ∧ p.natAbs ≤ t.1.natAbs ∧ q.natAbs ≤ t.2.natAbs
theorem RatT.keep {C : Addr} {H H' : Hp} (k : KeepI H H') {v : V} {t : Int × Int} (h : RatT C H v t) : RatT C H' v t := by
  obtain ⟨a, p, q, e, ⟨dx, r⟩, m⟩ := h
  exact ⟨a, p, q, e, ⟨dx, k _ _ _ _ r⟩, m⟩
/-- a ratio as it stands -/
def RatZ (C : Addr) (H : Hp) (v : V) (z : Int × Int) : Prop := ∃ a, v = .ref a ∧ RatAt C H a z.1 z.2
def RtZ (z t : Int × Int) : Prop := Rt z.1 z.2 t.1 t.2 ∧ z.1.natAbs ≤ t.1.natAbs ∧ z.2.natAbs ≤ t.2.natAbs
theorem ratZ_of {C : Addr} {H : Hp} : ∀ {xs : List V} {ts : List (Int × Int)}, Paired (RatT C H) xs ts → ∃ zs, Paired (RatZ C H) xs zs ∧ Paired RtZ zs ts
  | _, _, .nil => ⟨[], .nil, .nil⟩
  | _, _, .cons ⟨a, p, q, e, r, m⟩ t => by
    obtain ⟨zs, h1, h2⟩ := ratZ_of t
    exact ⟨(p, q) :: zs, .cons ⟨a, e, r⟩ h1, .cons m h2⟩
theorem paired_snoc_take {α β : Type} {R : α → β → Prop} {xs : List α} {ys : List β} {i : Nat} {x : α} {y : β} (h : Paired R xs (ys.take i)) (e : ys[i]? = some y) (r : R x y) : Paired R (xs ++ [x]) (ys.take (i + 1)) := by
  rw [List.take_add_one, e]
  exact Paired.snoc h r


def tpf (r t : Addr) : List (Str × V) := putF "taken" (.ref t) (putF "_results" (.ref r) [])
theorem tn_ : ¬ (("_results" : Str) = "taken") := by decide +kernel
theorem tpf_r (r t : Addr) : (tpf r t).lookup ("_results" : Str) = some (.ref r) := by
  unfold tpf
  rw [lookup_putF, if_neg tn_, lookup_putF, if_pos rfl]
theorem tpf_t (r t : Addr) : (tpf r t).lookup ("taken" : Str) = some (.ref t) := by
  unfold tpf
  rw [lookup_putF, if_pos rfl]
theorem tpf_no (r t : Addr) {m : Str} (h1 : ¬ m = "_results") (h2 : ¬ m = "taken") : (tpf r t).lookup m = none := by
  unfold tpf
  rw [lookup_putF, if_neg h2, lookup_putF, if_neg h1]
  rfl
/-- a tape at x: its results rs, what was taken ts -/
structure TapeAt (C : Addr) (H : Hp) (x rl tl : Addr) (rs : List Int) (ts : List (Int × Int)) : Prop where
  ex : ∃ dx, H x = some (.ins C dx (tpf rl tl))
  hr : H rl = some (.lst (rs.map V.int))
  ht : ∃ vs, H tl = some (.lst vs) ∧ Paired (TupV H) vs ts
theorem TapeAt.same {C : Addr} {H H' : Hp} {x rl tl : Addr} {rs : List Int} {ts : List (Int × Int)} (h : TapeAt C H x rl tl rs ts) (s : Same H H') : TapeAt C H' x rl tl rs ts := by
  obtain ⟨⟨dx, e⟩, hr, vs, h1, h2⟩ := h
  exact ⟨⟨dx, s _ _ e⟩, s _ _ hr, vs, s _ _ h1, Paired.mono (fun _ _ h => h.keep (keepT_of s)) h2⟩
theorem paired_snoc {α β : Type} {R : α → β → Prop} {xs : List α} {ys : List β} {x : α} {y : β} (h : Paired R xs ys) (r : R x y) : Paired R (xs ++ [x]) (ys ++ [y]) := by
  induction h with
  | nil => exact .cons r .nil
  | cons a _ ih => exact .cons a ih
def takeK (rs : List Int) (i : Nat) (c : Int) : Int := match rs[i]? with
  | some r => r % c
  | none => 0
def prodC (ts : List (Int × Int)) : Int := ts.foldl (fun a t => a * t.2) 1
theorem prodC_snoc (ts : List (Int × Int)) (t : Int × Int) : prodC (ts ++ [t]) = prodC ts * t.2 := by
  unfold prodC
  rw [List.foldl_append]
  rfl
/-- the beginning of the next way -/
def fol : List (Int × Int) → Option (List Int)
  | [] => none
  | (d, c) :: t => match fol t with
    | some r => some (d :: r)
    | none => if d + 1 < c then some [d + 1] else none
theorem fol_none {d c : Int} {t : List (Int × Int)} (h : fol t = none) : fol ((d, c) :: t) = if d + 1 < c then some [d + 1] else none := by
  show (match fol t with | some r => some (d :: r) | none => if d + 1 < c then some [d + 1] else none) = _
  rw [h]
theorem fol_some {d c : Int} {t : List (Int × Int)} {r : List Int} (h : fol t = some r) : fol ((d, c) :: t) = some (d :: r) := by
  show (match fol t with | some r => some (d :: r) | none => if d + 1 < c then some [d + 1] else none) = _
  rw [h]
theorem drop_at {α : Type} {ts : List α} {j : Nat} {x : α} (h : ts[j]? = some x) : ts.drop j = x :: ts.drop (j + 1) := by
  obtain ⟨hl, e⟩ := List.getElem?_eq_some_iff.mp h
  rw [List.drop_eq_getElem_cons hl, e]
theorem fol_at : ∀ {ts : List (Int × Int)} {j : Nat} {d c : Int}, ts[j]? = some (d, c) → d + 1 < c → fol (ts.drop (j + 1)) = none → fol ts = some ((ts.take j).map (·.1) ++ [d + 1])
  | [], _, _, _, h, _, _ => by simp at h
  | x :: t, 0, d, c, h, hd, hn => by
    cases h
    exact (fol_none hn).trans (if_pos hd)
  | (a, b) :: t, j + 1, d, c, h, hd, hn => by
    have ih := fol_at (ts := t) (j := j) (by rw [List.getElem?_cons_succ] at h; exact h) hd hn
    rw [fol_some ih]
    rfl
theorem fol_step {ts : List (Int × Int)} {j : Nat} {d c : Int} (h : ts[j]? = some (d, c)) (hd : ¬ d + 1 < c) (hn : fol (ts.drop (j + 1)) = none) : fol (ts.drop j) = none := by
  rw [drop_at h, fol_none hn, if_neg hd]
theorem heads_step {ts : List (Int × Int)} {k : Nat} {t : Int × Int} (h : ts[k]? = some t) : (ts.take (k + 1)).map (·.1) = (ts.take k).map (·.1) ++ [t.1] := by
  rw [List.take_add_one, h]
  show ((ts.take k) ++ [t]).map (·.1) = _
  rw [List.map_append]
  rfl
def FolV (H : Hp) (o : Option (List Int)) (v : V) : Prop := match o with
  | none => v = .non
  | some r => ∃ a, v = .ref a ∧ H a = some (.lst (r.map V.int))
def folD (o : Option (List Int)) : PyData := match o with
  | none => .none
  | some r => .list (r.map PyData.int)
theorem Da.ints {H : Hp} {a : Addr} {ns : List Int} (h : H a = some (.lst (ns.map V.int))) : Da H (.ref a) (.list (ns.map PyData.int)) := by
  refine .lst h (by rw [List.length_map, List.length_map]) fun i v d h1 h2 => ?_
  rw [List.getElem?_map] at h1 h2
  cases e : ns[i]? with
  | none => rw [e] at h1; cases h1
  | some y =>
    rw [e] at h1 h2
    cases h1
    cases h2
    exact .int y
theorem FolV.da {H : Hp} {o : Option (List Int)} {v : V} (h : FolV H o v) : Da H v (folD o) := by
  cases o with
  | none =>
    cases h
    exact .non
  | some r =>
    obtain ⟨a, rfl, h⟩ := h
    exact Da.ints h
theorem FolV.same {H H' : Hp} {o : Option (List Int)} {v : V} (h : FolV H o v) (s : Same H H') : FolV H' o v := by
  cases o with
  | none => exact h
  | some r =>
    obtain ⟨a, rfl, h⟩ := h
    exact ⟨a, rfl, s _ _ h⟩
theorem fol_len : ∀ {ts : List (Int × Int)} {r : List Int}, fol ts = some r → r.length ≤ ts.length
  | [], r, h => by cases h
  | (d, c) :: t, r, h => by
    cases e : fol t with
    | some q =>
      rw [fol_some e] at h
      cases h
      have := fol_len e
      rw [List.length_cons, List.length_cons]
      omega
    | none =>
      rw [fol_none e] at h
      split at h
      · cases h
        rw [List.length_cons]
        show 1 ≤ t.length + 1
        omega
      · cases h
theorem wide_ints : ∀ ns : List Int, wideAll (ns.map PyData.int) = true
  | [] => rfl
  | n :: r => by
    show (wide (.int n) && wideAll (r.map PyData.int)) = true
    rw [wide_ints r]
    rfl
theorem folD_ok {ts : List (Int × Int)} (h : ts.length ≤ 100) : (folD (fol ts)).depth < 8 ∧ wide (folD (fol ts)) = true := by
  cases e : fol ts with
  | none => exact ⟨by simp [folD, PyData.depth], by simp [folD, wide]⟩
  | some r =>
    have := fol_len e
    refine ⟨?_, ?_⟩
    · show (PyData.list (r.map PyData.int)).depth < 8
      simp only [PyData.depth, (lay_ints r).2]
      decide
    · show (decide ((r.map PyData.int).length ≤ 1000000) && wideAll (r.map PyData.int)) = true
      rw [wide_ints, List.length_map, decide_eq_true (by omega)]
      rfl
def tsD (ts : List (Int × Int)) : PyData := .list (ts.map fun t => .tuple [.int t.1, .int t.2])
theorem Da.pairs {H : Hp} {a : Addr} {vs : List V} {ts : List (Int × Int)} (h : H a = some (.lst vs)) (p : Paired (TupV H) vs ts) : Da H (.ref a) (tsD ts) := by
  refine .lst h (by rw [List.length_map, Paired.length p]) fun i v d h1 h2 => ?_
  obtain ⟨t, ht, b, rfl, hb⟩ := pget p h1
  rw [List.getElem?_map, ht] at h2
  cases h2
  refine .tup hb rfl fun j w e g1 g2 => ?_
  match j, g1, g2 with
  | 0, g1, g2 => cases g1; cases g2; exact .int _
  | 1, g1, g2 => cases g1; cases g2; exact .int _
theorem tsD_ok : ∀ {ts : List (Int × Int)}, ts.length ≤ 100 → (tsD ts).depth < 8 ∧ wide (tsD ts) = true := by
  have h1 : ∀ ts : List (Int × Int), PyData.depthAll (ts.map fun t => .tuple [.int t.1, .int t.2]) ≤ 1 := by
    intro ts
    induction ts with
    | nil => simp [PyData.depthAll]
    | cons t r ih =>
      rw [List.map_cons]
      simp only [PyData.depthAll, PyData.depth]
      exact Nat.max_le.mpr ⟨by decide, ih⟩
  have h2 : ∀ ts : List (Int × Int), wideAll (ts.map fun t => .tuple [.int t.1, .int t.2]) = true := by
    intro ts
    induction ts with
    | nil => rfl
    | cons t r ih =>
      rw [List.map_cons]
      show (wide (.tuple [.int t.1, .int t.2]) && wideAll _) = true
      rw [ih]
      rfl
  intro ts hl
  refine ⟨?_, ?_⟩
  · show (PyData.list _).depth < 8
    have := h1 ts
    simp only [PyData.depth]
    omega
  · show (decide (_ ≤ 1000000) && wideAll _) = true
    rw [h2 ts, List.length_map, decide_eq_true (by omega)]
    rfl
def OkT (ts : List (Int × Int)) : Prop := ∀ t ∈ ts, 0 < t.2 ∧ t.2 < 16
theorem prod_bd : ∀ {ts : List (Int × Int)}, OkT ts → 0 < prodC ts ∧ (prodC ts).natAbs < 2 ^ (4 * ts.length + 1) := by
  intro ts
  generalize hn : ts.length = n
  induction n generalizing ts with
  | zero =>
    intro _
    rw [List.eq_nil_of_length_eq_zero hn]
    exact ⟨by decide, by decide⟩
  | succ n ih =>
    intro ok
    obtain ⟨init, t, rfl⟩ : ∃ init t, ts = init ++ [t] := ⟨ts.dropLast, ts.getLast (fun z => by rw [z] at hn; cases hn), (List.dropLast_concat_getLast _).symm⟩
    rw [List.length_append] at hn
    have hn' : init.length + 1 = n + 1 := hn
    obtain ⟨a1, a2⟩ := ih (ts := init) (by omega) fun x m => ok x (List.mem_append_left _ m)
    obtain ⟨b1, b2⟩ := ok t (List.mem_append_right _ (List.mem_singleton.mpr rfl))
    rw [prodC_snoc]
    refine ⟨Int.mul_pos a1 b1, ?_⟩
    have e : 4 * (n + 1) + 1 = (4 * n + 1) + 4 := by omega
    rw [e]
    exact wide_lt a2 (by show t.2.natAbs < 16; omega)

structure Txt (K : PySem.W.Frag) (mg : Str → Option Value) where
  C_Ratio : Addr
  C_Tape : Addr
  a_Ratio_init : Addr
  d_Ratio_init : FuncData
  F_Ratio_init : FunD K "__init__" "Ratio.__init__" (defArgs s_Ratio_init) (defBody s_Ratio_init) (defScope s_Ratio_init) [.int 1] [] a_Ratio_init d_Ratio_init
  ds_Ratio_init : List Value
  v_Ratio_init : Vals [.int 1] ds_Ratio_init
  bd_Ratio_init : Binds K d_Ratio_init ["self", "num", "den"] ds_Ratio_init
  b_Ratio_init : Binds K d_Ratio_init ["self", "num", "den"] []
  mk_Ratio : Mk K C_Ratio a_Ratio_init
  a_Ratio_add : Addr
  d_Ratio_add : FuncData
  F_Ratio_add : Fun K "__add__" "Ratio.__add__" s_Ratio_add a_Ratio_add d_Ratio_add
  b_Ratio_add : Binds K d_Ratio_add ["self", "other"] []
  me_Ratio_add : Meth K C_Ratio "__add__" a_Ratio_add
  a_Tape_init : Addr
  d_Tape_init : FuncData
  F_Tape_init : Fun K "__init__" "Tape.__init__" s_Tape_init a_Tape_init d_Tape_init
  b_Tape_init : Binds K d_Tape_init ["self", "results"] []
  mk_Tape : Mk K C_Tape a_Tape_init
  a_Tape_take : Addr
  d_Tape_take : FuncData
  F_Tape_take : Fun K "take" "Tape.take" s_Tape_take a_Tape_take d_Tape_take
  b_Tape_take : Binds K d_Tape_take ["self", "count"] []
  me_Tape_take : Meth K C_Tape "take" a_Tape_take
  a_Tape_chance : Addr
  d_Tape_chance : FuncData
  F_Tape_chance : Fun K "chance" "Tape.chance" s_Tape_chance a_Tape_chance d_Tape_chance
  b_Tape_chance : Binds K d_Tape_chance ["self"] []
  me_Tape_chance : Meth K C_Tape "chance" a_Tape_chance
  a_Tape_following : Addr
  d_Tape_following : FuncData
  F_Tape_following : Fun K "following" "Tape.following" s_Tape_following a_Tape_following d_Tape_following
  b_Tape_following : Binds K d_Tape_following ["self"] []
  me_Tape_following : Meth K C_Tape "following" a_Tape_following
  a_law_pool : Addr
  d_law_pool : FuncData
  F_law_pool : Fun K "_law_pool" "_law_pool" s_law_pool a_law_pool d_law_pool
  b_law_pool : Binds K d_law_pool ["script", "budget"] []
  m_law_pool : mg "_law_pool" = some (.ref a_law_pool)
  a_law_draw : Addr
  d_law_draw : FuncData
  F_law_draw : Fun K "_law_draw" "_law_draw" s_law_draw a_law_draw d_law_draw
  b_law_draw : Binds K d_law_draw ["pool", "size"] []
  m_law_draw : mg "_law_draw" = some (.ref a_law_draw)
  a_law_number : Addr
  d_law_number : FuncData
  F_law_number : Fun K "_law_number" "_law_number" s_law_number a_law_number d_law_number
  b_law_number : Binds K d_law_number ["pool"] []
  m_law_number : mg "_law_number" = some (.ref a_law_number)
  a_law_same : Addr
  d_law_same : FuncData
  F_law_same : Fun K "_law_same" "_law_same" s_law_same a_law_same d_law_same
  b_law_same : Binds K d_law_same ["actual", "due"] []
  m_law_same : mg "_law_same" = some (.ref a_law_same)
  a_law_lowest : Addr
  d_law_lowest : FuncData
  F_law_lowest : Fun K "_law_lowest" "_law_lowest" s_law_lowest a_law_lowest d_law_lowest
  b_law_lowest : Binds K d_law_lowest ["num", "den"] []
  m_law_lowest : mg "_law_lowest" = some (.ref a_law_lowest)
  a_law_is_ratio : Addr
  d_law_is_ratio : FuncData
  F_law_is_ratio : Fun K "_law_is_ratio" "_law_is_ratio" s_law_is_ratio a_law_is_ratio d_law_is_ratio
  b_law_is_ratio : Binds K d_law_is_ratio ["actual", "num", "den"] []
  m_law_is_ratio : mg "_law_is_ratio" = some (.ref a_law_is_ratio)
  a_law_following : Addr
  d_law_following : FuncData
  F_law_following : Fun K "_law_following" "_law_following" s_law_following a_law_following d_law_following
  b_law_following : Binds K d_law_following ["taken"] []
  m_law_following : mg "_law_following" = some (.ref a_law_following)
  a_law_told : Addr
  d_law_told : FuncData
  F_law_told : Fun K "_law_told" "_law_told" s_law_told a_law_told d_law_told
  b_law_told : Binds K d_law_told ["tape", "taken"] []
  m_law_told : mg "_law_told" = some (.ref a_law_told)
  a_law_one : Addr
  d_law_one : FuncData
  F_law_one : Fun K "_law_one" "_law_one" s_law_one a_law_one d_law_one
  b_law_one : Binds K d_law_one ["pool"] []
  m_law_one : mg "_law_one" = some (.ref a_law_one)
  a_law : Addr
  d_law : FuncData
  F_law : Fun K "law" "law" s_law a_law d_law
  b_law : Binds K d_law ["script"] []
  m_law : mg "law" = some (.ref a_law)
  m_Ratio : mg "Ratio" = some (.ref C_Ratio)
  cl_Ratio : Cls K C_Ratio
  n_Ratio_num : NoAttr K C_Ratio "num"
  n_Ratio_den : NoAttr K C_Ratio "den"
  sf_Ratio : PySem.W.selfFirst K C_Ratio = true
  ic_Ratio : C8.InsC K C_Ratio
  m_Tape : mg "Tape" = some (.ref C_Tape)
  cl_Tape : Cls K C_Tape
  n_Tape__results : NoAttr K C_Tape "_results"
  n_Tape_taken : NoAttr K C_Tape "taken"
  g_gcd : mg "gcd" = some (.builtin "math.gcd")
  z_abs : mg "abs" = none
  z_bool : mg "bool" = none
  z_int : mg "int" = none
  z_isinstance : mg "isinstance" = none
  z_len : mg "len" = none
  z_list : mg "list" = none
  z_range : mg "range" = none
  z_reversed : mg "reversed" = none
  z_str : mg "str" = none
  z_tuple : mg "tuple" = none
section
variable {P : Program} {w : World} {K : PySem.W.Frag} {mg : Str → Option Value} {base : Heap}
/-! ### Ratio.__init__ -/
def sp_Ratio_init (T : Txt K mg) : Sp := fun vs H Q _ => ∃ (x dx : Addr) (n d : Int), vs = [.ref x, .int n, .int d] ∧ H x = some (.ins T.C_Ratio dx []) ∧ d ≠ 0 ∧ d.natAbs < 2 ^ 8000 ∧
  ∀ (p q : Int) (H' : Hp), (∀ b o, b ≠ x → H b = some o → H' b = some o) → H' x = some (.ins T.C_Ratio dx (pf p q)) → Rt p q n d → p.natAbs ≤ n.natAbs → q.natAbs ≤ d.natAbs → Q .non H'

theorem ok_Ratio_init (T : Txt K mg) : FnOk P w K mg base CX0 3 T.a_Ratio_init T.d_Ratio_init ["self", "num", "den"] (sp_Ratio_init T) := by
  refine T.F_Ratio_init.ok sc_Ratio_init (fun vs H Q E h => ?_) (fun cdv A outer s H vs Q E hr h => ?_)
  · obtain ⟨x, dx, n, d, rfl, _⟩ := h
    rfl
  obtain ⟨x, dx, n, d, rfl, hx, hd, hb, q⟩ := h
  refine ⟨_, PSs.nox (pss_cons (ps_if (pt_cmpR op_eq (pv 2) pe_int (nomark _)) (pss_one (ps_never)) pss_nil)
      (pss_cons (ps_set (i := 3) sc_Ratio_init.nd rfl (by first | exact Or.inl rfl | exact Or.inr rfl) (pe_callBfun cr_gcd (by rfl) T.g_gcd (pa_cons (pv 1) (pa_cons (pv 2) pa_nil))))
      (C8.pss_cut (ps_if (pt_cmpR op_lt (pv 2) pe_int (nomark _)) (pss_one (ps_set (i := 3) sc_Ratio_init.nd rfl (by first | exact Or.inl rfl | exact Or.inr rfl) (pe_un un_neg (pv 3)))) pss_nil)
      (pss_cons (ps_fld (pv 0) (pe_op op_fdivX (pv 1) (pv 3)) rfl)
      (pss_one (ps_fld (pv 0) (pe_op op_fdivX (pv 2) (pv 3)) rfl)))))), ?_⟩
  refine ⟨_, rfl, rfl, _, rfl, ite2 (fun c => absurd (V.int.inj (of_decide_eq_true c)) hd) (fun _ => ?_)⟩
  refine ⟨_, rfl, _, rfl, n, d, rfl, ?_⟩
  refine ⟨fun σ' H' => σ' = [some (.ref x), some (.int n), some (.int d), some (.int (fac n d))] ∧ H' = H, ?_, ?_⟩
  · refine ⟨_, rfl, _, _, rfl, rfl, _, rfl, ite2 (fun c => ?_) (fun c => ?_)⟩
    · have c' : d < 0 := of_decide_eq_true c
      refine ⟨_, rfl, _, rfl, ?_, rfl⟩
      unfold fac
      rw [if_pos c']
      rfl
    · have c' : ¬ d < 0 := fun z => c (decide_eq_true z)
      refine ⟨?_, rfl⟩
      unfold fac
      rw [if_neg c']
      rfl
  rintro σ1 H1 ⟨rfl, rfl⟩
  have hf := fac_ne (n := n) hd
  have hg : (fac n d).natAbs < 2 ^ 8000 := by
    rw [fac_abs]
    exact Nat.lt_of_le_of_lt (Nat.le_of_dvd (Int.natAbs_pos.mpr hd) (Nat.gcd_dvd_right _ _)) hb
  have hl := log_lt hg (by omega) (by omega)
  obtain ⟨r1, r2, r3⟩ := rt_made (n := n) hd
  refine ⟨_, rfl, _, rfl, _, _, rfl, rfl, ⟨hf, hl⟩, _, rfl, x, T.C_Ratio, dx, [], rfl, hx, T.cl_Ratio, T.n_Ratio_num, by show 0 < 1000; decide, ?_⟩
  refine ⟨_, rfl, _, rfl, _, _, rfl, rfl, ⟨hf, hl⟩, _, rfl, x, T.C_Ratio, dx, _, rfl, upd_same, T.cl_Ratio, T.n_Ratio_den, by show 1 < 1000; decide, ?_⟩
  rw [upd_upd]
  exact q _ _ _ (fun b o n e => by rw [upd_ne n]; exact e) upd_same r1 r2 r3
/-! ### Ratio.__add__ -/
theorem make_ratio (T : Txt K mg) {H : Hp} {R : Addr → Hp → Prop} {E : XK} {n d : Int} (hd : d ≠ 0) (hb : d.natAbs < 2 ^ 8000)
    (k : ∀ (r : Addr) (p q : Int) (H' : Hp), Same H H' → H r = none → RatAt T.C_Ratio H' r p q → Rt p q n d → p.natAbs ≤ n.natAbs → q.natAbs ≤ d.natAbs → R r H') :
    ∀ x dx, H x = none → H dx = none → dx ≠ x → sp_Ratio_init T [.ref x, .int n, .int d] (upd (upd H dx (.own x)) x (.ins T.C_Ratio dx [])) (fun v H2 => v = .non ∧ R x H2) E := by
  intro x dx nx nd ne
  refine ⟨x, dx, n, d, rfl, upd_same, hd, hb, fun p q H' hk hx hr hp hq => ⟨rfl, ?_⟩⟩
  refine k x p q H' (fun b o e => hk b o (ne_of_none e nx) ?_) nx ⟨dx, hx⟩ hr hp hq
  rw [upd_ne (ne_of_none e nx), upd_ne (ne_of_none e nd)]
  exact e
/-- two ratios given, one made of num and den -/
def sp2 (T : Txt K mg) (num den : Int → Int → Int → Int → Int) : Sp := fun vs H Q _ => ∃ (a b : Addr) (p q u v : Int), vs = [.ref a, .ref b] ∧ RatAt T.C_Ratio H a p q ∧ RatAt T.C_Ratio H b u v ∧ 0 < q ∧ 0 < v ∧ p.natAbs < 2 ^ 2000 ∧ q.natAbs < 2 ^ 2000 ∧ u.natAbs < 2 ^ 2000 ∧ v.natAbs < 2 ^ 2000 ∧
  ∀ (r : Addr) (p' q' : Int) (H' : Hp), Same H H' → H r = none → RatAt T.C_Ratio H' r p' q' → Rt p' q' (num p q u v) (den p q u v) → p'.natAbs ≤ (num p q u v).natAbs → q'.natAbs ≤ (den p q u v).natAbs → Q (.ref r) H'
def sp_Ratio_add (T : Txt K mg) : Sp := sp2 T (fun p q u v => p * v + u * q) (fun _ q _ v => q * v)

theorem ok_Ratio_add (T : Txt K mg) : FnOk P w K mg base CX0 5 T.a_Ratio_add T.d_Ratio_add ["self", "other"] (sp_Ratio_add T) := by
  refine T.F_Ratio_add.ok sc_Ratio_add (fun vs H Q E h => ?_) (fun cdv A outer s H vs Q E hr h => ?_)
  · obtain ⟨a, b, p, q, u, v, rfl, _⟩ := h
    rfl
  obtain ⟨a, b, p, q, u, v, rfl, ⟨da, ha⟩, ⟨db, hb⟩, q0, v0, hp, hq, hu, hv, k⟩ := h
  refine ⟨_, (pss_one (ps_ret (pe_make T.mk_Ratio (ok_Ratio_init T) (hr.mono (by decide)) (by rfl) T.m_Ratio T.b_Ratio_init .nil pass0 (pa_cons (pe_op op_add (pe_op op_mulW (pe_fld (pv 0) rfl) (pe_fld (pv 1) rfl)) (pe_op op_mulW (pe_fld (pv 1) rfl) (pe_fld (pv 0) rfl))) (pa_cons (pe_op op_mulW (pe_fld (pv 0) rfl) (pe_fld (pv 1) rfl)) pa_nil))))), ?_⟩
  refine ⟨_, rfl, a, T.C_Ratio, da, _, _, rfl, ha, T.cl_Ratio, T.n_Ratio_num, pf_num _ _, _, rfl, b, T.C_Ratio, db, _, _, rfl, hb, T.cl_Ratio, T.n_Ratio_den, pf_den _ _, _, _, rfl, rfl, wide_mul hp hv (by decide) (by decide) (by decide), ?_⟩
  refine ⟨_, rfl, b, T.C_Ratio, db, _, _, rfl, hb, T.cl_Ratio, T.n_Ratio_num, pf_num _ _, _, rfl, a, T.C_Ratio, da, _, _, rfl, ha, T.cl_Ratio, T.n_Ratio_den, pf_den _ _, _, _, rfl, rfl, wide_mul hu hq (by decide) (by decide) (by decide), _, _, rfl, rfl, ?_⟩
  refine ⟨_, rfl, a, T.C_Ratio, da, _, _, rfl, ha, T.cl_Ratio, T.n_Ratio_den, pf_den _ _, _, rfl, b, T.C_Ratio, db, _, _, rfl, hb, T.cl_Ratio, T.n_Ratio_den, pf_den _ _, _, _, rfl, rfl, wide_mul hq hv (by decide) (by decide) (by decide), ?_⟩
  exact make_ratio T (Int.mul_ne_zero (by omega) (by omega)) (Nat.lt_of_lt_of_le (wide_lt hq hv) (Nat.pow_le_pow_right (by decide) (by decide))) k
/-! ### Tape.__init__ -/
def sp_Tape_init (T : Txt K mg) : Sp := fun vs H Q _ => ∃ (x dx a : Addr) (rs : List Int), vs = [.ref x, .ref a] ∧ H x = some (.ins T.C_Tape dx []) ∧ SqL K H a (rs.map V.int) ∧
  ∀ (rl tl : Addr) (H' : Hp), (∀ b o, b ≠ x → H b = some o → H' b = some o) → H' x = some (.ins T.C_Tape dx (tpf rl tl)) → H' rl = some (.lst (rs.map V.int)) → H' tl = some (.lst []) → H rl = none → H tl = none → rl ≠ tl → Q .non H'

theorem ok_Tape_init (T : Txt K mg) : FnOk P w K mg base CX0 1 T.a_Tape_init T.d_Tape_init ["self", "results"] (sp_Tape_init T) := by
  refine T.F_Tape_init.ok sc_Tape_init (fun vs H Q E h => ?_) (fun cdv A outer s H vs Q E hr h => ?_)
  · obtain ⟨x, dx, a, rs, rfl, _⟩ := h
    rfl
  obtain ⟨x, dx, a, rs, rfl, hx, hS, q⟩ := h
  refine ⟨_, (pss_cons (ps_fld (pv 0) (pe_callTy call_list_of (by rfl) T.z_list (by first | exact PySem.boot_list | decide +kernel) (pa_cons (pv 1) pa_nil)) rfl)
      (pss_one (ps_fld (pv 0) (pe_lst pa_nil) rfl))), ?_⟩
  refine ⟨_, rfl, a, _, rfl, .inl hS, fun rl h1 => ?_⟩
  have s1 := same_upd (o := .lst (rs.map V.int)) h1
  have r1 : rl ≠ x := (ne_of_none hx h1).symm
  refine ⟨_, rfl, x, T.C_Tape, dx, [], rfl, s1 _ _ hx, T.cl_Tape, T.n_Tape__results, by show 0 < 1000; decide, ?_⟩
  refine ⟨by show 0 ≤ sizeLine; decide, fun tl h2 => ?_⟩
  have t1 : tl ≠ x := fun z => by
    rw [z, upd_same] at h2
    cases h2
  have h2' : upd H rl (.lst (rs.map V.int)) tl = none := by
    rw [upd_ne t1] at h2
    exact h2
  have h3 : H tl = none := s1.free h2'
  have t2 : rl ≠ tl := fun z => by
    rw [← z, upd_same] at h2'
    cases h2'
  refine ⟨_, rfl, x, T.C_Tape, dx, _, rfl, by rw [upd_ne t1.symm]; exact upd_same, T.cl_Tape, T.n_Tape_taken, by show 1 < 1000; decide, ?_⟩
  refine q rl tl _ (fun b o n e => ?_) upd_same ?_ ?_ h1 h3 t2
  · rw [upd_ne n, upd_ne (ne_of_none e h3), upd_ne n]
    exact s1 _ _ e
  · rw [upd_ne r1, upd_ne t2, upd_ne r1, upd_same]
  · rw [upd_ne t1, upd_same]
/-! ### Tape.take -/
theorem make_tape (T : Txt K mg) {H : Hp} {R : Addr → Hp → Prop} {E : XK} {a : Addr} {rs : List Int} (hS : SqL K H a (rs.map V.int))
    (k : ∀ (x rl tl : Addr) (H' : Hp), Same H H' → H x = none → H rl = none → H tl = none → rl ≠ tl → TapeAt T.C_Tape H' x rl tl rs [] → R x H') :
    ∀ x dx, H x = none → H dx = none → dx ≠ x → sp_Tape_init T [.ref x, .ref a] (upd (upd H dx (.own x)) x (.ins T.C_Tape dx [])) (fun v H2 => v = .non ∧ R x H2) E := by
  intro x dx nx nd ne
  have s1 : Same H (upd (upd H dx (.own x)) x (.ins T.C_Tape dx [])) := fun b o e => by rw [upd_ne (ne_of_none e nx), upd_ne (ne_of_none e nd)]; exact e
  refine ⟨x, dx, a, rs, rfl, upd_same, s1.seq hS, fun rl tl H' hk hx hr ht f1 f2 ne2 => ⟨rfl, ?_⟩⟩
  refine k x rl tl H' (fun b o e => hk b o (ne_of_none e nx) (s1 _ _ e)) nx (s1.free f1) (s1.free f2) ne2 ⟨⟨dx, hx⟩, hr, [], ht, .nil⟩
def sp_Tape_take (T : Txt K mg) : Sp := fun vs H Q _ => ∃ (x rl tl : Addr) (c : Int) (rs : List Int) (ts : List (Int × Int)), vs = [.ref x, .int c] ∧ TapeAt T.C_Tape H x rl tl rs ts ∧ rl ≠ tl ∧ 0 < c ∧ ts.length ≤ 100 ∧
  ∀ H', (∀ b o, b ≠ tl → H b = some o → H' b = some o) → TapeAt T.C_Tape H' x rl tl rs (ts ++ [(takeK rs ts.length c, c)]) → Q (.int (takeK rs ts.length c)) H'

theorem ok_Tape_take (T : Txt K mg) : FnOk P w K mg base CX0 1 T.a_Tape_take T.d_Tape_take ["self", "count"] (sp_Tape_take T) := by
  refine T.F_Tape_take.ok sc_Tape_take (fun vs H Q E h => ?_) (fun cdv A outer s H vs Q E hr h => ?_)
  · obtain ⟨x, rl, tl, c, rs, ts, rfl, _⟩ := h
    rfl
  obtain ⟨x, rl, tl, c, rs, ts, rfl, ⟨⟨dx, hx⟩, hR, vs, hT, hp⟩, nrt, c0, hl, q⟩ := h
  refine ⟨_, (pss_cons (ps_set (i := 2) sc_Tape_take.nd rfl (by first | exact Or.inl rfl | exact Or.inr rfl) (pe_callB call_len_seq (by rfl) T.z_len (by first | exact PySem.boot_len | decide +kernel) (pa_cons (pe_fld (pv 0) rfl) pa_nil)))
      (C8.pss_cut (ps_set (i := 3) sc_Tape_take.nd rfl (by first | exact Or.inl rfl | exact Or.inr rfl) (pe_ifExp (pt_cmpR op_lt (pv 2) (pe_callB call_len_seq (by rfl) T.z_len (by first | exact PySem.boot_len | decide +kernel) (pa_cons (pe_fld (pv 0) rfl) pa_nil)) (nomark _)) (pe_op op_mod (pe_ix ix_list (pe_fld (pv 0) rfl) (pv 2) (fun _ _ => rfl)) (pv 1)) pe_int))
      (pss_cons (ps_expr (pe_bm PySem.F.plainAttrs_list PySem.F.slot_list_append PySem.F.type_list_append mt_append (pe_fld (pv 0) rfl) (pa_cons (pe_tup (pa_cons (pv 3) (pa_cons (pv 1) pa_nil))) pa_nil)))
      (pss_one (ps_ret (pv 3)))))), ?_⟩
  have vl := Paired.length hp
  refine ⟨_, rfl, x, T.C_Tape, dx, _, _, rfl, hx, T.cl_Tape, T.n_Tape_taken, tpf_t _ _, tl, vs, rfl, .inl (SqL.of hT), ?_⟩
  refine ⟨fun σ' H' => σ' = [some (.ref x), some (.int c), some (.int (vs.length : Int)), some (.int (takeK rs ts.length c))] ∧ H' = H, ?_, ?_⟩
  · refine ⟨_, rfl, _, rfl, x, T.C_Tape, dx, _, _, rfl, hx, T.cl_Tape, T.n_Tape__results, tpf_r _ _, rl, _, rfl, .inl (SqL.of hR), _, _, rfl, rfl, _, rfl, ite2 (fun e => ?_) (fun e => ?_)⟩
    · have e' : (vs.length : Int) < (((rs.map V.int).length : Nat) : Int) := of_decide_eq_true e
      rw [List.length_map] at e'
      have hlt : ts.length < rs.length := by omega
      have eg : rs[ts.length]? = some (rs[ts.length]) := List.getElem?_eq_getElem hlt
      have ek : takeK rs ts.length c = rs[ts.length] % c := by
        unfold takeK
        rw [eg]
      rw [ek]
      exact ⟨_, rfl, x, T.C_Tape, dx, _, _, rfl, hx, T.cl_Tape, T.n_Tape__results, tpf_r _ _, _, rfl, rl, _, _, .int (rs[ts.length]), rfl, rfl, SqL.of hR, at_ofG (j := ts.length) (by omega) (by rw [List.getElem?_map, eg]; rfl), _, rfl, _, _, rfl, rfl, c0, rfl, rfl⟩
    · have e' : ¬ (vs.length : Int) < (((rs.map V.int).length : Nat) : Int) := fun z => e (decide_eq_true z)
      rw [List.length_map] at e'
      have ek : takeK rs ts.length c = 0 := by
        unfold takeK
        rw [List.getElem?_eq_none (by omega)]
      rw [ek]
      exact ⟨rfl, rfl⟩
  rintro σ1 H1 ⟨rfl, rfl⟩
  refine ⟨_, rfl, x, T.C_Tape, dx, _, _, rfl, hx, T.cl_Tape, T.n_Tape_taken, tpf_t _ _, .inl ⟨rfl, _, SqL.of hT⟩, _, rfl, _, rfl, by show 2 ≤ sizeLine; decide, fun U hU => ?_⟩
  have s1 := same_upd (o := .tup [V.int (takeK rs ts.length c), .int c]) hU
  refine ⟨tl, vs, _, rfl, rfl, s1 _ _ hT, small1000 (by omega), ?_⟩
  have nx : x ≠ tl := fun z => by
    rw [z, hT] at hx
    cases hx
  have nU : U ≠ tl := (ne_of_none hT hU).symm
  refine ⟨_, rfl, q _ (fun b o n e => by rw [upd_ne n]; exact s1 _ _ e) ⟨⟨dx, by rw [upd_ne nx]; exact s1 _ _ hx⟩, by rw [upd_ne nrt]; exact s1 _ _ hR, _, upd_same, paired_snoc (Paired.mono (fun _ _ h => h.keep ((keepT_of s1).trans (keepT_lst (s1 _ _ hT)))) hp) ⟨U, rfl, by rw [upd_ne nU]; exact upd_same⟩⟩⟩
/-! ### Tape.chance -/
def sp_Tape_chance (T : Txt K mg) : Sp := fun vs H Q _ => ∃ (x rl tl : Addr) (rs : List Int) (ts : List (Int × Int)), vs = [.ref x] ∧ TapeAt T.C_Tape H x rl tl rs ts ∧ OkT ts ∧ ts.length ≤ 100 ∧
  ∀ (r : Addr) (p q : Int) (H' : Hp), Same H H' → RatAt T.C_Ratio H' r p q → Rt p q 1 (prodC ts) → Q (.ref r) H'

theorem ok_Tape_chance (T : Txt K mg) : FnOk P w K mg base CX0 5 T.a_Tape_chance T.d_Tape_chance ["self"] (sp_Tape_chance T) := by
  refine T.F_Tape_chance.ok sc_Tape_chance (fun vs H Q E h => ?_) (fun cdv A outer s H vs Q E hr h => ?_)
  · obtain ⟨x, rl, tl, rs, ts, rfl, _⟩ := h
    rfl
  obtain ⟨x, rl, tl, rs, ts, rfl, ⟨⟨dx, hx⟩, hR, vs, hT, hp⟩, ok, hl, q⟩ := h
  refine ⟨_, (pss_cons (ps_set (i := 1) sc_Tape_chance.nd rfl (by first | exact Or.inl rfl | exact Or.inr rfl) pe_int)
      (pss_cons (ps_for PassesOwn.never rfl (pi_list (pe_fld (pv 0) rfl)) (pg_tup rfl (pgs_cons (pg_name (i := 2) sc_Tape_chance.nd rfl (by first | exact Or.inl rfl | exact Or.inr rfl)) (pgs_cons (pg_name (i := 3) sc_Tape_chance.nd rfl (by first | exact Or.inl rfl | exact Or.inr rfl)) pgs_nil))) (pss_one (ps_set (i := 1) sc_Tape_chance.nd rfl (by first | exact Or.inl rfl | exact Or.inr rfl) (pe_op op_mul (pv 1) (pv 3)))))
      (pss_one (ps_ret (pe_make T.mk_Ratio (ok_Ratio_init T) (hr.mono (by decide)) (by rfl) T.m_Ratio T.b_Ratio_init .nil pass0 (pa_cons pe_int (pa_cons (pv 1) pa_nil))))))), ?_⟩
  refine ⟨_, rfl, x, T.C_Tape, dx, _, _, rfl, hx, T.cl_Tape, T.n_Tape_taken, tpf_t _ _, tl, rfl, ⟨_, SqL.of hT⟩, for_list (K := K) (a := tl) (xs := vs) (fun i σ' H' => ∃ (y2 y3 : Option V), σ' = [some (.ref x), some (.int (prodC (ts.take i))), y2, y3] ∧ H' = H) ⟨none, none, rfl, rfl⟩ ?_ ?_ ?_⟩
  · rintro i σ' H' _ ⟨y2, y3, rfl, rfl⟩
    exact SqL.of hT
  · rintro i v σ' H' hi ⟨y2, y3, rfl, rfl⟩
    obtain ⟨t, ht, U, rfl, hU⟩ := pget hp hi
    obtain ⟨t0, t1⟩ := ok t (List.mem_of_getElem? ht)
    refine ⟨U, _, rfl, SqT.of hU, rfl, _, _, rfl, _, _, rfl, rfl, ?_⟩
    refine ⟨_, rfl, _, rfl, _, _, rfl, rfl, .inr ⟨by omega, by omega⟩, ⟨some (.int t.1), some (.int t.2), ?_, rfl⟩⟩
    rw [List.take_add_one, ht]
    show [some (V.ref x), some (V.int (prodC (ts.take i) * t.2)), some (V.int t.1), some (V.int t.2)] = [some (V.ref x), some (V.int (prodC (ts.take i ++ [t]))), some (V.int t.1), some (V.int t.2)]
    rw [prodC_snoc]
  · rintro σ' H' ⟨y2, y3, rfl, rfl⟩
    rw [Paired.length hp, List.take_of_length_le (Nat.le_refl _)]
    obtain ⟨p0, p1⟩ := prod_bd ok
    exact ⟨_, rfl, make_ratio T (by omega) (Nat.lt_of_lt_of_le p1 (Nat.pow_le_pow_right (by decide) (by omega))) fun r p' q' H2 s2 _ R2 rt _ _ => q r p' q' H2 s2 R2 rt⟩
/-! ### Tape.following -/
def sp_Tape_following (T : Txt K mg) : Sp := fun vs H Q _ => ∃ (x rl tl : Addr) (rs : List Int) (ts : List (Int × Int)), vs = [.ref x] ∧ TapeAt T.C_Tape H x rl tl rs ts ∧ ts.length ≤ 100 ∧
  ∀ (v : V) (H' : Hp), Same H H' → FolV H' (fol ts) v → Q v H'

theorem ok_Tape_following (T : Txt K mg) : FnOk P w K mg base CX0 1 T.a_Tape_following T.d_Tape_following ["self"] (sp_Tape_following T) := by
  refine T.F_Tape_following.ok sc_Tape_following (fun vs H Q E h => ?_) (fun cdv A outer s H vs Q E hr h => ?_)
  · obtain ⟨x, rl, tl, rs, ts, rfl, _⟩ := h
    rfl
  obtain ⟨x, rl, tl, rs, ts, rfl, ⟨⟨dx, hx⟩, hR, vs, hT, hp⟩, hl, q⟩ := h
  refine ⟨_, (pss_cons (ps_for PassesOwn.never rfl (pi_revR (by rfl) T.z_reversed (prg_1 (by rfl) T.z_range (pe_callB call_len_seq (by rfl) T.z_len (by first | exact PySem.boot_len | decide +kernel) (pa_cons (pe_fld (pv 0) rfl) pa_nil)))) (pg_name (i := 1) sc_Tape_following.nd rfl (by first | exact Or.inl rfl | exact Or.inr rfl)) (pss_cons (ps_asg (pe_ix ix_list (pe_fld (pv 0) rfl) (pv 1) (fun _ _ => rfl)) (pg_tup rfl (pgs_cons (pg_name (i := 2) sc_Tape_following.nd rfl (by first | exact Or.inl rfl | exact Or.inr rfl)) (pgs_cons (pg_name (i := 3) sc_Tape_following.nd rfl (by first | exact Or.inl rfl | exact Or.inr rfl)) pgs_nil))))
      (pss_one (ps_if (pt_cmpR op_lt (pe_op op_add (pv 2) pe_int) (pv 3) (nomark _)) (pss_one (ps_ret (pe_lst (StX.pa_star (pe_lc (own := [("earlier", 4), ("_", 5)]) (g := gTup K 2 (gCons (gName 4) (gCons (gName 5) gNil))) (tt := tYes) rfl sc_Tape_following.nd (pi_list (pe_slice sl_list (pe_fld (pv 0) rfl) po_none (po_some (pv 1)))) (blkOk_by (N := N_Tape_following) (sc := defScope s_Tape_following) (by decide +kernel)) (fun _ _ _ _ _ => (by exact (pg_tup rfl (pgs_cons (pg_name (i := 4) sc_Tape_following.nd rfl (by first | exact Or.inl rfl | exact Or.inr rfl)) (pgs_cons (pg_name (i := 5) sc_Tape_following.nd rfl (by first | exact Or.inl rfl | exact Or.inr rfl)) pgs_nil))))) (fun _ _ _ _ _ => pts_nil) (fun _ _ _ _ _ => (by exact (pv 4)))) (pa_cons (pe_op op_add (pv 2) pe_int) pa_nil))))) pss_nil))))
      (pss_one (ps_ret pe_non))), ?_⟩
  have vl := Paired.length hp
  refine ⟨_, rfl, x, T.C_Tape, dx, _, _, rfl, hx, T.cl_Tape, T.n_Tape_taken, tpf_t _ _, tl, vs, rfl, .inl (SqL.of hT), _, rfl, by decide, by decide, by omega, by omega, ?_⟩
  have e0 : ((vs.length : Int) - 0).toNat = ts.length := by omega
  rw [e0]
  refine for_rangeC (fun i σ' H' => ∃ (y1 y2 y3 y4 : Option V), σ' = [some (.ref x), y1, y2, y3, y4, none] ∧ H' = H ∧ fol (ts.drop (ts.length - i)) = none) ⟨_, _, _, _, rfl, rfl, by rw [Nat.sub_zero, List.drop_length]; rfl⟩ ?_ ?_
  · rintro i σ' H' hi ⟨y1, y2, y3, y4, rfl, rfl, fn⟩
    have hj : ts.length - 1 - i < ts.length := by omega
    obtain ⟨⟨d, c⟩, ht⟩ : ∃ t, ts[ts.length - 1 - i]? = some t := ⟨_, List.getElem?_eq_getElem hj⟩
    obtain ⟨v, hv, U, rfl, hU⟩ := pget' hp ht
    have e1 : ts.length - i = ts.length - 1 - i + 1 := by omega
    rw [e1] at fn
    have ez : (0 : Int) + (ts.length : Int) - 1 + (i : Int) * -1 = ((ts.length - 1 - i : Nat) : Int) := by omega
    revert ht hv fn hj ez
    generalize ej : ts.length - 1 - i = j
    intro fn hj ht hv ez
    refine ⟨_, rfl, x, T.C_Tape, dx, _, _, rfl, hx, T.cl_Tape, T.n_Tape_taken, tpf_t _ _, _, rfl, tl, vs, _, .ref U, rfl, rfl, SqL.of hT, at_ofG (j := j) ez hv, U, _, rfl, SqT.of hU, rfl, _, _, rfl, _, _, rfl, rfl, ?_⟩
    refine ⟨_, rfl, _, _, rfl, rfl, _, rfl, _, _, rfl, rfl, _, rfl, ite2 (fun cc => ?_) (fun cc => ?_)⟩
    · have cc' : d + 1 < c := of_decide_eq_true cc
      refine ⟨_, rfl, x, T.C_Tape, dx, _, _, rfl, hx, T.cl_Tape, T.n_Tape_taken, tpf_t _ _, _, rfl, _, rfl, tl, vs, rfl, SqL.of hT, fun W hW => ⟨W, rfl, ⟨_, SqL.of upd_same⟩, fun D hD => ?_⟩⟩
      rw [ez, cut_to] at hD ⊢
      have sW := same_upd (o := .lst (vs.take j)) hW
      refine lc_list (K := K) (a := W) (xs := vs.take j) (fun k H2 => Same (upd H' W (.lst (vs.take j))) H2 ∧ H2 D = some (.lst (((ts.take k).map (·.1)).map V.int))) ⟨same_upd hD, upd_same⟩ (fun k H2 hk h2 => SqL.of (h2.1 _ _ upd_same)) (fun k v H2 hk h2 => ?_) (fun H2 h2 => ?_)
      · obtain ⟨s2, e2⟩ := h2
        have kj : k < j := by
          have := (List.getElem?_eq_some_iff.mp hk).1
          rw [List.length_take] at this
          omega
        rw [List.getElem?_take, if_pos kj] at hk
        obtain ⟨t', ht', U2, rfl, hU2⟩ := pget hp hk
        refine ⟨U2, _, rfl, SqT.of (s2 _ _ (sW _ _ hU2)), rfl, _, _, rfl, _, _, rfl, rfl, ?_⟩
        refine ⟨rfl, ?_⟩
        refine ⟨_, rfl, _, e2, ?_, ?_, ?_⟩
        · rw [List.length_map, List.length_map, List.length_take]
          exact small1000 (by omega)
        · intro b o eb
          rw [upd_ne (ne_of_none eb hD)]
          exact s2 b o eb
        · rw [upd_same, heads_step ht', List.map_append]
          rfl
      · obtain ⟨s2, e2⟩ := h2
        have tj : (vs.take j).length = j := by
          rw [List.length_take]
          omega
        rw [tj] at e2
        refine ⟨D, _, rfl, .inr (SqL.of e2), _, rfl, _, _, rfl, rfl, ?_, fun L hL => ?_⟩
        · show (((ts.take j).map (·.1)).map V.int ++ [V.int (d + 1)]).length ≤ sizeLine
          rw [List.length_append, List.length_map, List.length_map, List.length_take]
          exact small_le (by show _ + 1 ≤ 1000; omega)
        · refine q (.ref L) _ ((sW.trans s2).trans (same_upd hL)) ?_
          rw [fol_at ht cc' fn]
          refine ⟨L, rfl, ?_⟩
          rw [upd_same, List.map_append]
          rfl
    · have cc' : ¬ d + 1 < c := fun z => cc (decide_eq_true z)
      refine ⟨_, _, _, _, rfl, rfl, ?_⟩
      have e2 : ts.length - (i + 1) = j := by omega
      rw [e2]
      exact fol_step ht cc' fn
  · rintro σ' H' ⟨y1, y2, y3, y4, rfl, rfl, fn⟩
    rw [Nat.sub_self, List.drop_zero] at fn
    exact q .non H' (Same.refl H') (by rw [fn]; rfl)
/-! ### _law_pool -/
def sp_law_pool (T : Txt K mg) : Sp := fun vs H Q _ => ∃ (a : Addr) (ns : List Int) (b : Int), vs = [.ref a, .int b] ∧ SqL K H a (ns.map V.int) ∧ ∀ (p c : Addr) (H' : Hp), Same H H' → H p = none → H c = none → Pool H' p c b → Q (.ref p) H'

theorem ok_law_pool (T : Txt K mg) : FnOk P w K mg base CX0 1 T.a_law_pool T.d_law_pool ["script", "budget"] (sp_law_pool T) := by
  refine T.F_law_pool.ok sc_law_pool (fun vs H Q E h => ?_) (fun cdv A outer s H vs Q E hr h => ?_)
  · obtain ⟨a, ns, b, rfl, _⟩ := h
    rfl
  obtain ⟨a, ns, b, rfl, hS, q⟩ := h
  refine ⟨_, (pss_one (ps_ret (pe_lst (pa_cons (pe_callTy call_list_of (by rfl) T.z_list (by first | exact PySem.boot_list | decide +kernel) (pa_cons (pv 0) pa_nil)) (pa_cons pe_int (pa_cons pe_int (pa_cons pe_int (pa_cons pe_int (pa_cons (pv 1) pa_nil))))))))), ?_⟩
  refine ⟨_, rfl, a, _, rfl, .inl hS, fun c hc => ⟨_, rfl, by show 6 ≤ sizeLine; decide, fun p hp => ?_⟩⟩
  refine q p c _ (upd2_same hc hp) ((same_upd hc).free hp) hc ⟨ns, 0, 0, 1, 0, upd_same, same_upd hp _ _ upd_same, Int.le_refl 0, fun z => ?_⟩
  rw [z] at hp
  rw [upd_same] at hp
  cases hp
/-! ### _law_draw -/
def sp_law_draw (T : Txt K mg) : Sp := fun vs H Q _ => ∃ (p c : Addr) (n b : Int), vs = [.ref p, .int n] ∧ 0 < n ∧ n < 10 ^ 20 ∧ Pool H p c b ∧ ∀ (k : Int) (H' : Hp), 0 ≤ k → k < n → But p H H' → Pool H' p c b → Q (.int k) H'

theorem ok_law_draw (T : Txt K mg) : FnOk P w K mg base CX0 1 T.a_law_draw T.d_law_draw ["pool", "size"] (sp_law_draw T) := by
  refine T.F_law_draw.ok sc_law_draw (fun vs H Q E h => ?_) (fun cdv A outer s H vs Q E hr h => ?_)
  · obtain ⟨p, c, n, b, rfl, _⟩ := h
    rfl
  obtain ⟨p, c, n, b, rfl, hn, hn2, hP, q⟩ := h
  have hP0 := hP
  obtain ⟨ns, i, r, u, t, hp, hc, hi, hcp⟩ := hP
  refine ⟨_, (C8.pss_cut (ps_if (PW.pt (pw_and (pt_cmpR op_le (pe_ix ix_list (pv 0) pe_int (fun _ _ => rfl)) pe_int (nomark _)) (pw_and (pt_cmpR op_le (pe_ix ix_list (pv 0) pe_int (fun _ _ => rfl)) pe_int (nomark _)) (pw_and1 (pt_cmpR op_lt (pe_ix ix_list (pv 0) pe_int (fun _ _ => rfl)) (pe_callB call_len_seq (by rfl) T.z_len (by first | exact PySem.boot_len | decide +kernel) (pa_cons (pe_ix ix_list (pv 0) pe_int (fun _ _ => rfl)) pa_nil)) (nomark _)))))) (pss_cons (ps_set (i := 2) sc_law_draw.nd rfl (by first | exact Or.inl rfl | exact Or.inr rfl) (pe_ix ix_list (pe_ix ix_list (pv 0) pe_int (fun _ _ => rfl)) (pe_ix ix_list (pv 0) pe_int (fun _ _ => rfl)) (fun _ _ => rfl)))
      (pss_cons (ps_asg (pe_op op_add (pe_ix ix_list (pv 0) pe_int (fun _ _ => rfl)) pe_int) (pg_sub (pv 0) pe_int set_list))
      (pss_cons (ps_asg (pe_op op_mod (pe_callTy call_int1 (by rfl) T.z_int (by first | exact PySem.boot_int | decide +kernel) (pa_cons (pe_op op_add (pe_op op_mul (pe_ix ix_list (pv 0) pe_int (fun _ _ => rfl)) pe_int) (pv 2)) pa_nil)) pe_int) (pg_sub (pv 0) pe_int set_list))
      (pss_cons (ps_asg pe_int (pg_sub (pv 0) pe_int set_list))
      (pss_one (ps_if (pt_cmpR op_ge (pv 2) (pe_op op_pow pe_int pe_int) (nomark _)) (pss_one (ps_asg (pv 2) (pg_sub (pv 0) pe_int set_list))) pss_nil)))))) pss_nil)
      (pss_cons (ps_if (pt_cmpR op_gt (pe_ix ix_list (pv 0) pe_int (fun _ _ => rfl)) pe_int (nomark _)) (pss_cons (ps_set (i := 3) sc_law_draw.nd rfl (by first | exact Or.inl rfl | exact Or.inr rfl) (pe_op op_mod (pe_callTy call_int1 (by rfl) T.z_int (by first | exact PySem.boot_int | decide +kernel) (pa_cons (pe_ix ix_list (pv 0) pe_int (fun _ _ => rfl)) pa_nil)) (pv 1)))
      (pss_cons (ps_asg (pe_op op_fdivX (pe_ix ix_list (pv 0) pe_int (fun _ _ => rfl)) (pv 1)) (pg_sub (pv 0) pe_int set_list))
      (pss_cons (ps_asg pe_int (pg_sub (pv 0) pe_int set_list))
      (pss_one (ps_ret (pv 3)))))) pss_nil)
      (pss_cons (ps_asg (pe_op op_sub (pe_ix ix_list (pv 0) pe_int (fun _ _ => rfl)) pe_int) (pg_sub (pv 0) pe_int set_list))
      (pss_cons (ps_asg (pe_op op_mod (pe_callTy call_int1 (by rfl) T.z_int (by first | exact PySem.boot_int | decide +kernel) (pa_cons (pe_op op_add (pe_op op_mul (pe_ix ix_list (pv 0) pe_int (fun _ _ => rfl)) pe_int) pe_int) pa_nil)) pe_int) (pg_sub (pv 0) pe_int set_list))
      (pss_one (ps_ret (pe_op op_mod (pe_op op_mod (pe_callTy call_int1 (by rfl) T.z_int (by first | exact PySem.boot_int | decide +kernel) (pa_cons (pe_op op_add (pe_op op_mul (pe_ix ix_list (pv 0) pe_int (fun _ _ => rfl)) pe_int) pe_int) pa_nil)) pe_int) (pv 1)))))))), ?_⟩
  let ps : Int → Int → Int → Int → List V := fun i r u t => [.ref c, .int i, .int r, .int u, .int t, .int b]
  have at0 : ∀ i r u t, atI (ps i r u t) 0 = some (.ref c) := fun _ _ _ _ => atI_nat (j := 0) rfl
  have at1 : ∀ i r u t, atI (ps i r u t) 1 = some (.int i) := fun _ _ _ _ => atI_nat (j := 1) rfl
  have at2 : ∀ i r u t, atI (ps i r u t) 2 = some (.int r) := fun _ _ _ _ => atI_nat (j := 2) rfl
  have at3 : ∀ i r u t, atI (ps i r u t) 3 = some (.int u) := fun _ _ _ _ => atI_nat (j := 3) rfl
  have at4 : ∀ i r u t, atI (ps i r u t) 4 = some (.int t) := fun _ _ _ _ => atI_nat (j := 4) rfl
  refine ⟨fun σ' H' => ∃ y i r u t, σ' = [some (.ref p), some (.int n), y, none] ∧ But p H H' ∧ H' p = some (.lst (ps i r u t)) ∧ 0 ≤ i, ?_, ?_⟩
  · refine ⟨_, rfl, p, _, 2, .int r, rfl, rfl, SqL.of hp, at2 _ _ _ _, _, _, rfl, rfl, _, rfl, ite2 (fun _ => ?_) (fun _ => ⟨none, i, r, u, t, rfl, But.refl _ _, hp, hi⟩)⟩
    refine ⟨_, rfl, p, _, 4, .int t, rfl, rfl, SqL.of hp, at4 _ _ _ _, _, _, rfl, rfl, _, rfl, ite2 (fun _ => ?_) (fun _ => ⟨none, i, r, u, t, rfl, But.refl _ _, hp, hi⟩)⟩
    refine ⟨_, rfl, p, _, 1, .int i, rfl, rfl, SqL.of hp, at1 _ _ _ _, _, rfl, p, _, 0, .ref c, rfl, rfl, SqL.of hp, at0 _ _ _ _, c, _, rfl, .inl (SqL.of hc), _, _, rfl, rfl, _, rfl, ite2 (fun c3 => ?_) (fun _ => ⟨none, i, r, u, t, rfl, But.refl _ _, hp, hi⟩)⟩
    have c3' : i < (((ns.map V.int).length : Nat) : Int) := of_decide_eq_true c3
    rw [List.length_map] at c3'
    have hlt : i.toNat < ns.length := by omega
    have gi : (ns.map V.int)[i.toNat]? = some (.int ns[i.toNat]) := by rw [List.getElem?_map, List.getElem?_eq_getElem hlt]; rfl
    -- cell = pool[0][pool[1]]
    refine ⟨_, rfl, p, _, 0, .ref c, rfl, rfl, SqL.of hp, at0 _ _ _ _, _, rfl, p, _, 1, .int i, rfl, rfl, SqL.of hp, at1 _ _ _ _, c, _, i, _, rfl, rfl, SqL.of hc, at_of (j := i.toNat) (by omega) gi, ?_⟩
    generalize ns[i.toNat] = z
    -- pool[1] = pool[1] + 1; pool[3] = ..; pool[4] = 7
    refine ⟨_, rfl, p, _, 1, .int i, rfl, rfl, SqL.of hp, at1 _ _ _ _, _, _, rfl, rfl, _, rfl, p, _, 1, 1, rfl, rfl, hp, rfl, ?_⟩
    refine ⟨_, rfl, p, ps (i + 1) r u t, 3, .int u, rfl, rfl, SqL.of upd_same, at3 _ _ _ _, _, _, rfl, rfl, .inr ⟨by decide, by decide⟩, _, rfl, _, _, rfl, rfl, .inl ⟨_, rfl, _, _, rfl, rfl, by show (0 : Int) < 2147483647; decide, _, rfl, p, ps (i + 1) r u t, 3, 3, rfl, rfl, upd_same, rfl, ?_⟩⟩
    rw [upd_upd]
    refine ⟨_, rfl, p, ps (i + 1) r ((u * 31 + z) % 2147483647) t, 4, 4, rfl, rfl, upd_same, rfl, ?_⟩
    rw [upd_upd]
    -- if cell >= 10 ** 18: pool[2] = cell
    refine ⟨_, rfl, _, _, rfl, rfl, ⟨by decide, by decide, by decide⟩, _, _, rfl, rfl, _, rfl, ite2 (fun _ => ?_) (fun _ => ?_)⟩
    · refine ⟨_, rfl, _, rfl, p, ps (i + 1) r ((u * 31 + z) % 2147483647) 7, 2, 2, rfl, rfl, upd_same, rfl, ?_⟩
      rw [upd_upd]
      exact ⟨_, i + 1, z, _, 7, rfl, but_upd, upd_same, by omega⟩
    · exact ⟨_, i + 1, r, _, 7, rfl, but_upd, upd_same, by omega⟩
  clear hp hi at0
  rintro σ1 H1 ⟨y, i, r, u, t, rfl, b1, hp, hi⟩
  have hc1 : H1 c = some (.lst (ns.map V.int)) := b1 _ _ hcp hc
  refine ⟨_, rfl, p, _, 2, .int r, rfl, rfl, SqL.of hp, at2 _ _ _ _, _, _, rfl, rfl, _, rfl, ite2 (fun _ => ?_) (fun _ => ?_)⟩
  · -- a large cell is used up
    refine ⟨_, rfl, p, _, 2, .int r, rfl, rfl, SqL.of hp, at2 _ _ _ _, .inl ⟨_, rfl, _, rfl, _, _, rfl, rfl, hn, ?_⟩⟩
    refine ⟨_, rfl, p, _, 2, .int r, rfl, rfl, SqL.of hp, at2 _ _ _ _, _, rfl, _, _, rfl, rfl, ⟨by omega, log_lt (b := 100) (by omega) (by decide) (by decide)⟩, _, rfl, p, _, 2, 2, rfl, rfl, hp, rfl, ?_⟩
    refine ⟨_, rfl, p, ps i (r.fdiv n) u t, 4, 4, rfl, rfl, upd_same, rfl, ?_⟩
    rw [upd_upd]
    refine ⟨_, rfl, q _ _ (Int.emod_nonneg _ (by omega)) (Int.emod_lt_of_pos _ hn) (b1.trans but_upd) ⟨ns, i, r.fdiv n, u, 0, upd_same, ?_, hi, hcp⟩⟩
    rw [upd_ne hcp]
    exact hc1
  · refine ⟨_, rfl, p, _, 4, .int t, rfl, rfl, SqL.of hp, at4 _ _ _ _, _, _, rfl, rfl, _, rfl, p, _, 4, 4, rfl, rfl, hp, rfl, ?_⟩
    refine ⟨_, rfl, p, ps i r u (t - 1), 3, .int u, rfl, rfl, SqL.of upd_same, at3 _ _ _ _, _, _, rfl, rfl, .inr ⟨by decide, by decide⟩, _, _, rfl, rfl, .inl ⟨_, rfl, _, _, rfl, rfl, by show (0 : Int) < 2147483647; decide, _, rfl, p, ps i r u (t - 1), 3, 3, rfl, rfl, upd_same, rfl, ?_⟩⟩
    rw [upd_upd]
    refine ⟨_, rfl, p, ps i r ((u * 48271 + 12345) % 2147483647) (t - 1), 3, _, rfl, rfl, SqL.of upd_same, at3 _ _ _ _, _, _, rfl, rfl, .inr ⟨by decide, by decide⟩, _, _, rfl, rfl, .inl ⟨_, rfl, _, _, rfl, rfl, by show (0 : Int) < 2147483647; decide, _, rfl, _, _, rfl, rfl, hn, ?_⟩⟩
    refine q _ _ (Int.emod_nonneg _ (by omega)) (Int.emod_lt_of_pos _ hn) (b1.trans but_upd) ⟨ns, i, r, _, t - 1, upd_same, ?_, hi, hcp⟩
    rw [upd_ne hcp]
    exact hc1
/-! ### _law_number -/
def sp_law_number (T : Txt K mg) : Sp := fun vs H Q _ => ∃ (p c : Addr) (b : Int), vs = [.ref p] ∧ Pool H p c b ∧ ∀ (k : Int) (H' : Hp), But p H H' → Pool H' p c b → Q (.int k) H'

theorem ok_law_number (T : Txt K mg) : FnOk P w K mg base CX0 2 T.a_law_number T.d_law_number ["pool"] (sp_law_number T) := by
  refine T.F_law_number.ok sc_law_number (fun vs H Q E h => ?_) (fun cdv A outer s H vs Q E hr h => ?_)
  · obtain ⟨p, c, b, rfl, _⟩ := h
    rfl
  obtain ⟨p, c, b, rfl, hP, q⟩ := h
  refine ⟨_, (pss_cons (ps_if (pt_cmpR op_eq (pe_call (ok_law_draw T) (hr.mono (by decide)) (by rfl) T.m_law_draw T.F_law_draw.kp T.b_law_draw .nil pass0 (pa_cons (pv 0) (pa_cons pe_int pa_nil))) pe_int (nomark _)) (pss_one (ps_ret (pe_call (ok_law_draw T) (hr.mono (by decide)) (by rfl) T.m_law_draw T.F_law_draw.kp T.b_law_draw .nil pass0 (pa_cons (pv 0) (pa_cons pe_int pa_nil))))) pss_nil)
      (pss_one (ps_ret (pe_call (ok_law_draw T) (hr.mono (by decide)) (by rfl) T.m_law_draw T.F_law_draw.kp T.b_law_draw .nil pass0 (pa_cons (pv 0) (pa_cons pe_int pa_nil)))))), ?_⟩
  refine ⟨_, rfl, p, c, 3, b, rfl, by decide, by decide, hP, fun k H1 h0 h1 b1 P1 => ?_⟩
  refine ⟨rfl, _, rfl, ite2 (fun _ => ?_) (fun _ => ?_)⟩
  · exact ⟨_, rfl, p, c, 65536, b, rfl, by decide, by decide, P1, fun k2 H2 g0 g1 b2 P2 => q _ _ (b1.trans b2) P2⟩
  · exact ⟨_, rfl, p, c, 9, b, rfl, by decide, by decide, P1, fun k2 H2 g0 g1 b2 P2 => q _ _ (b1.trans b2) P2⟩
/-! ### _law_same -/
def sp_law_same (T : Txt K mg) (n : Nat) : Sp := fun vs H Q _ => ∃ (x y : V) (d : PyData), vs = [x, y] ∧ Da H x d ∧ Da H y d ∧ d.depth < n ∧ wide d = true ∧ Q (.bl true) H
theorem no_law_same (T : Txt K mg) : ∀ vs H Q E, ¬ sp_law_same T 0 vs H Q E := fun vs H Q E ⟨_, _, _, _, _, _, h, _⟩ => Nat.not_lt_zero _ h

theorem step_law_same (T : Txt K mg) {n : Nat} (G : FnOk P w K mg base CX0 (0 + n) T.a_law_same T.d_law_same ["actual", "due"] (sp_law_same T n)) : FnOk P w K mg base CX0 (0 + n + 1) T.a_law_same T.d_law_same ["actual", "due"] (sp_law_same T (n + 1)) := by
  refine T.F_law_same.ok sc_law_same (fun vs H Q E h => ?_) (fun cdv A outer s H vs Q E hr h => ?_)
  · obtain ⟨x, y, d, rfl, _⟩ := h
    rfl
  obtain ⟨x, y, d, rfl, hx, hy, hd, hw, q⟩ := h
  refine ⟨_, (pss_cons (ps_if (PW.pt (pw_or (pt_truth (pe_callB call_isi (by rfl) T.z_isinstance (by first | exact PySem.boot_isinstance | decide +kernel) (pa_cons (pv 1) (pa_cons (pe_bltn (v := .ty "tuple") (by rfl) T.z_tuple (by decide +kernel) rfl) pa_nil))) (fun _ => rfl)) (pw_or1 (pt_truth (pe_callB call_isi (by rfl) T.z_isinstance (by first | exact PySem.boot_isinstance | decide +kernel) (pa_cons (pv 1) (pa_cons (pe_bltn (v := .ty "list") (by rfl) T.z_list (by decide +kernel) rfl) pa_nil))) (fun _ => rfl))))) (pss_cons (ps_if (PW.pt (pw_or (pt_cmpR op_ne (pe_callB call_isi (by rfl) T.z_isinstance (by first | exact PySem.boot_isinstance | decide +kernel) (pa_cons (pv 1) (pa_cons (pe_bltn (v := .ty "tuple") (by rfl) T.z_tuple (by decide +kernel) rfl) pa_nil))) (pe_callB call_isi (by rfl) T.z_isinstance (by first | exact PySem.boot_isinstance | decide +kernel) (pa_cons (pv 0) (pa_cons (pe_bltn (v := .ty "tuple") (by rfl) T.z_tuple (by decide +kernel) rfl) pa_nil))) (nomark _)) (pw_or1 (pt_cmpR op_ne (pe_callB call_isi (by rfl) T.z_isinstance (by first | exact PySem.boot_isinstance | decide +kernel) (pa_cons (pv 1) (pa_cons (pe_bltn (v := .ty "list") (by rfl) T.z_list (by decide +kernel) rfl) pa_nil))) (pe_callB call_isi (by rfl) T.z_isinstance (by first | exact PySem.boot_isinstance | decide +kernel) (pa_cons (pv 0) (pa_cons (pe_bltn (v := .ty "list") (by rfl) T.z_list (by decide +kernel) rfl) pa_nil))) (nomark _))))) (pss_one (ps_ret pe_bl)) pss_nil)
      (pss_cons (ps_if (pt_cmpR op_ne (pe_callB call_len_seq (by rfl) T.z_len (by first | exact PySem.boot_len | decide +kernel) (pa_cons (pv 0) pa_nil)) (pe_callB call_len_seq (by rfl) T.z_len (by first | exact PySem.boot_len | decide +kernel) (pa_cons (pv 1) pa_nil)) (nomark _)) (pss_one (ps_ret pe_bl)) pss_nil)
      (pss_cons (ps_for PassesOwn.never rfl (pi_range1 (by rfl) T.z_range (pa_cons (pe_callB call_len_seq (by rfl) T.z_len (by first | exact PySem.boot_len | decide +kernel) (pa_cons (pv 1) pa_nil)) pa_nil)) (pg_name (i := 2) sc_law_same.nd rfl (by first | exact Or.inl rfl | exact Or.inr rfl)) (pss_one (ps_if (pt_not (pt_truth (pe_call G hr (by rfl) T.m_law_same T.F_law_same.kp T.b_law_same .nil pass0 (pa_cons (pe_ix (IxR.or ix_list ix_tup) (pv 0) (pv 2) (fun _ _ => rfl)) (pa_cons (pe_ix (IxR.or ix_list ix_tup) (pv 1) (pv 2) (fun _ _ => rfl)) pa_nil))) (fun _ => rfl))) (pss_one (ps_ret pe_bl)) pss_nil)))
      (pss_one (ps_ret pe_bl))))) pss_nil)
      (pss_cons (ps_if (PW.pt (pw_or (pt_cmpR op_isN (pv 1) pe_non (nomark _)) (pw_or1 (pt_truth (pe_callB call_isi (by rfl) T.z_isinstance (by first | exact PySem.boot_isinstance | decide +kernel) (pa_cons (pv 1) (pa_cons (pe_bltn (v := .ty "bool") (by rfl) T.z_bool (by decide +kernel) rfl) pa_nil))) (fun _ => rfl))))) (pss_one (ps_ret (pe_and (pe_cmpR op_eq (pe_cmpR op_isN (pv 0) pe_non (nomark _)) (pe_cmpR op_isN (pv 1) pe_non (nomark _)) (nomark _)) (pe_and (pe_or (pe_cmpR op_isN (pv 1) pe_non (nomark _)) (pe_one (pe_callB call_isi (by rfl) T.z_isinstance (by first | exact PySem.boot_isinstance | decide +kernel) (pa_cons (pv 0) (pa_cons (pe_bltn (v := .ty "bool") (by rfl) T.z_bool (by decide +kernel) rfl) pa_nil))))) (pe_one (pe_cmpR op_eq (pv 0) (pv 1) (nomark _))))))) pss_nil)
      (pss_cons (ps_if (pt_truth (pe_callB call_isi (by rfl) T.z_isinstance (by first | exact PySem.boot_isinstance | decide +kernel) (pa_cons (pv 1) (pa_cons (pe_bltn (v := .ty "int") (by rfl) T.z_int (by decide +kernel) rfl) pa_nil))) (fun _ => rfl)) (pss_one (ps_ret (pe_and (pe_callB call_isi (by rfl) T.z_isinstance (by first | exact PySem.boot_isinstance | decide +kernel) (pa_cons (pv 0) (pa_cons (pe_bltn (v := .ty "int") (by rfl) T.z_int (by decide +kernel) rfl) pa_nil))) (pe_and (pe_not (pe_callB call_isi (by rfl) T.z_isinstance (by first | exact PySem.boot_isinstance | decide +kernel) (pa_cons (pv 0) (pa_cons (pe_bltn (v := .ty "bool") (by rfl) T.z_bool (by decide +kernel) rfl) pa_nil)))) (pe_one (pe_cmpR op_eq (pv 0) (pv 1) (nomark _))))))) pss_nil)
      (pss_one (ps_ret (pe_and (pe_callB call_isi (by rfl) T.z_isinstance (by first | exact PySem.boot_isinstance | decide +kernel) (pa_cons (pv 0) (pa_cons (pe_bltn (v := .ty "str") (by rfl) T.z_str (by decide +kernel) rfl) pa_nil))) (pe_one (pe_cmpR op_eq (pv 0) (pv 1) (nomark _))))))))), ?_⟩
  cases d with
  | dict kvs => cases hx
  | none =>
    cases hx
    cases hy
    refine ⟨_, rfl, .non, .ty "tuple", .type "NoneType", .type "tuple", false, rfl, .ty _, .base .non, kit_ty (by decide +kernel), false, rfl, ?_⟩
    refine ⟨_, rfl, .non, .ty "list", .type "NoneType", .type "list", false, rfl, .ty _, .base .non, kit_ty (by decide +kernel), false, rfl, ?_⟩
    refine ⟨_, rfl, rfl, _, rfl, ?_⟩
    refine ⟨_, rfl, rfl, _, rfl, rfl, rfl, _, rfl, ?_⟩
    refine ⟨_, rfl, rfl, _, rfl, ?_⟩
    exact ⟨_, rfl, _, rfl, _, rfl, rfl, q⟩
  | bool b =>
    cases hx
    cases hy
    refine ⟨_, rfl, .bl b, .ty "tuple", .type "bool", .type "tuple", false, rfl, .ty _, .base (.bl b), kit_ty (by decide +kernel), false, rfl, ?_⟩
    refine ⟨_, rfl, .bl b, .ty "list", .type "bool", .type "list", false, rfl, .ty _, .base (.bl b), kit_ty (by decide +kernel), false, rfl, ?_⟩
    refine ⟨_, rfl, rfl, _, rfl, ?_⟩
    refine ⟨_, rfl, .bl b, .ty "bool", .type "bool", .type "bool", true, rfl, .ty _, .base (.bl b), kit_ty (by decide +kernel), true, rfl, ?_⟩
    refine ⟨_, rfl, rfl, _, rfl, rfl, rfl, _, rfl, ?_⟩
    refine ⟨_, rfl, rfl, _, rfl, ?_⟩
    refine ⟨_, rfl, .bl b, .ty "bool", .type "bool", .type "bool", true, rfl, .ty _, .base (.bl b), kit_ty (by decide +kernel), _, rfl, ?_⟩
    refine ⟨_, rfl, _, rfl, rfl, ?_⟩
    show Q (.bl (decide (V.bl b = V.bl b))) _
    rw [decide_eq_true rfl]
    exact q
  | int i =>
    cases hx
    cases hy
    refine ⟨_, rfl, .int i, .ty "tuple", .type "int", .type "tuple", false, rfl, .ty _, .base (.int i), kit_ty (by decide +kernel), false, rfl, ?_⟩
    refine ⟨_, rfl, .int i, .ty "list", .type "int", .type "list", false, rfl, .ty _, .base (.int i), kit_ty (by decide +kernel), false, rfl, ?_⟩
    refine ⟨_, rfl, rfl, _, rfl, ?_⟩
    refine ⟨_, rfl, .int i, .ty "bool", .type "int", .type "bool", false, rfl, .ty _, .base (.int i), kit_ty (by decide +kernel), false, rfl, ?_⟩
    refine ⟨_, rfl, .int i, .ty "int", .type "int", .type "int", true, rfl, .ty _, .base (.int i), kit_ty (by decide +kernel), true, rfl, ?_⟩
    refine ⟨_, rfl, .int i, .ty "int", .type "int", .type "int", true, rfl, .ty _, .base (.int i), kit_ty (by decide +kernel), _, rfl, ?_⟩
    refine ⟨_, rfl, .int i, .ty "bool", .type "int", .type "bool", false, rfl, .ty _, .base (.int i), kit_ty (by decide +kernel), _, rfl, _, rfl, ?_⟩
    refine ⟨_, rfl, _, rfl, rfl, ?_⟩
    show Q (.bl (decide (V.int i = V.int i))) _
    rw [decide_eq_true rfl]
    exact q
  | str x =>
    cases hx
    cases hy
    refine ⟨_, rfl, .str x, .ty "tuple", .type "str", .type "tuple", false, rfl, .ty _, .base (.str x), kit_ty (by decide +kernel), false, rfl, ?_⟩
    refine ⟨_, rfl, .str x, .ty "list", .type "str", .type "list", false, rfl, .ty _, .base (.str x), kit_ty (by decide +kernel), false, rfl, ?_⟩
    refine ⟨_, rfl, rfl, _, rfl, ?_⟩
    refine ⟨_, rfl, .str x, .ty "bool", .type "str", .type "bool", false, rfl, .ty _, .base (.str x), kit_ty (by decide +kernel), false, rfl, ?_⟩
    refine ⟨_, rfl, .str x, .ty "int", .type "str", .type "int", false, rfl, .ty _, .base (.str x), kit_ty (by decide +kernel), false, rfl, ?_⟩
    refine ⟨_, rfl, .str x, .ty "str", .type "str", .type "str", true, rfl, .ty _, .base (.str x), kit_ty (by decide +kernel), _, rfl, ?_⟩
    refine ⟨_, rfl, _, rfl, rfl, ?_⟩
    show Q (.bl (decide (V.str x = V.str x))) _
    rw [decide_eq_true rfl]
    exact q
  | tuple ds =>
    cases hx with
    | @tup px xs _ hpx lx ex =>
    cases hy with
    | @tup py ys _ hpy ly ey =>
    simp only [wide, Bool.and_eq_true, decide_eq_true_eq] at hw
    have hl : ((xs.length : Nat) : Int) = ((ys.length : Nat) : Int) := by rw [lx, ly]
    refine ⟨_, rfl, .ref py, .ty "tuple", .type "tuple", .type "tuple", true, rfl, .ty _, .base (.tup hpy), kit_ty (by decide +kernel), true, rfl, ?_⟩
    refine ⟨_, rfl, .ref py, .ty "tuple", .type "tuple", .type "tuple", true, rfl, .ty _, .base (.tup hpy), kit_ty (by decide +kernel), _, rfl, .ref px, .ty "tuple", .type "tuple", .type "tuple", true, rfl, .ty _, .base (.tup hpx), kit_ty (by decide +kernel), rfl, _, rfl, ?_⟩
    refine ⟨_, rfl, .ref py, .ty "list", .type "tuple", .type "list", false, rfl, .ty _, .base (.tup hpy), kit_ty (by decide +kernel), _, rfl, .ref px, .ty "list", .type "tuple", .type "list", false, rfl, .ty _, .base (.tup hpx), kit_ty (by decide +kernel), rfl, _, rfl, ?_⟩
    refine ⟨_, rfl, px, xs, rfl, .inr (SqT.of hpx), _, rfl, py, ys, rfl, .inr (SqT.of hpy), rfl, _, rfl, iteNS (congrArg V.int hl) ?_⟩
    refine ⟨_, rfl, py, ys, rfl, .inr (SqT.of hpy), _, rfl, by omega, by omega, for_range (fun i σ' H' => ∃ yk, σ' = [some (.ref px), some (.ref py), yk] ∧ H' = H) ⟨_, rfl, rfl⟩ ?_ ?_⟩
    · rintro i σ1 H1 hi ⟨yk, rfl, rfl⟩
      have hi2 : i < ds.length := by rw [← ly]; exact hi
      have gd : ds[i]? = some ds[i] := List.getElem?_eq_getElem hi2
      have gx : xs[i]? = some xs[i] := List.getElem?_eq_getElem (by rw [lx]; exact hi2)
      have gy : ys[i]? = some ys[i] := List.getElem?_eq_getElem (by rw [ly]; exact hi2)
      have e0 : (0 : Int) + (i : Int) = ((i : Nat) : Int) := Int.zero_add _
      refine ⟨_, rfl, _, rfl, .inr ⟨px, xs, _, _, rfl, rfl, SqT.of hpx, at_of e0 gx, _, rfl, _, rfl, .inr ⟨py, ys, _, _, rfl, rfl, SqT.of hpy, at_of e0 gy, xs[i], ys[i], ds[i], rfl, ex i _ _ gx gd, ey i _ _ gy gd, ?_, wide_get hw.2 gd, true, rfl, _, rfl, rfl⟩⟩⟩
      have dg := depth_get gd
      simp only [PyData.depth] at hd
      omega
    · rintro σ1 H1 ⟨yk, rfl, rfl⟩
      exact q
  | list ds =>
    cases hx with
    | @lst px xs _ hpx lx ex =>
    cases hy with
    | @lst py ys _ hpy ly ey =>
    simp only [wide, Bool.and_eq_true, decide_eq_true_eq] at hw
    have hl : ((xs.length : Nat) : Int) = ((ys.length : Nat) : Int) := by rw [lx, ly]
    refine ⟨_, rfl, .ref py, .ty "tuple", .type "list", .type "tuple", false, rfl, .ty _, .base (.lst hpy), kit_ty (by decide +kernel), false, rfl, ?_⟩
    refine ⟨_, rfl, .ref py, .ty "list", .type "list", .type "list", true, rfl, .ty _, .base (.lst hpy), kit_ty (by decide +kernel), true, rfl, ?_⟩
    refine ⟨_, rfl, .ref py, .ty "tuple", .type "list", .type "tuple", false, rfl, .ty _, .base (.lst hpy), kit_ty (by decide +kernel), _, rfl, .ref px, .ty "tuple", .type "list", .type "tuple", false, rfl, .ty _, .base (.lst hpx), kit_ty (by decide +kernel), rfl, _, rfl, ?_⟩
    refine ⟨_, rfl, .ref py, .ty "list", .type "list", .type "list", true, rfl, .ty _, .base (.lst hpy), kit_ty (by decide +kernel), _, rfl, .ref px, .ty "list", .type "list", .type "list", true, rfl, .ty _, .base (.lst hpx), kit_ty (by decide +kernel), rfl, _, rfl, ?_⟩
    refine ⟨_, rfl, px, xs, rfl, .inl (SqL.of hpx), _, rfl, py, ys, rfl, .inl (SqL.of hpy), rfl, _, rfl, iteNS (congrArg V.int hl) ?_⟩
    refine ⟨_, rfl, py, ys, rfl, .inl (SqL.of hpy), _, rfl, by omega, by omega, for_range (fun i σ' H' => ∃ yk, σ' = [some (.ref px), some (.ref py), yk] ∧ H' = H) ⟨_, rfl, rfl⟩ ?_ ?_⟩
    · rintro i σ1 H1 hi ⟨yk, rfl, rfl⟩
      have hi2 : i < ds.length := by rw [← ly]; exact hi
      have gd : ds[i]? = some ds[i] := List.getElem?_eq_getElem hi2
      have gx : xs[i]? = some xs[i] := List.getElem?_eq_getElem (by rw [lx]; exact hi2)
      have gy : ys[i]? = some ys[i] := List.getElem?_eq_getElem (by rw [ly]; exact hi2)
      have e0 : (0 : Int) + (i : Int) = ((i : Nat) : Int) := Int.zero_add _
      refine ⟨_, rfl, _, rfl, .inl ⟨px, xs, _, _, rfl, rfl, SqL.of hpx, at_of e0 gx, _, rfl, _, rfl, .inl ⟨py, ys, _, _, rfl, rfl, SqL.of hpy, at_of e0 gy, xs[i], ys[i], ds[i], rfl, ex i _ _ gx gd, ey i _ _ gy gd, ?_, wide_get hw.2 gd, true, rfl, _, rfl, rfl⟩⟩⟩
      have dg := depth_get gd
      simp only [PyData.depth] at hd
      omega
    · rintro σ1 H1 ⟨yk, rfl, rfl⟩
      exact q
theorem ok_law_same (T : Txt K mg) : ∀ n, FnOk P w K mg base CX0 (0 + n) T.a_law_same T.d_law_same ["actual", "due"] (sp_law_same T n)
  | 0 => ⟨fun vs H Q E h => absurd h (no_law_same T vs H Q E), fun A outer s H args us vs Q E _ _ _ _ h => absurd h (no_law_same T vs H Q E)⟩
  | n + 1 => step_law_same T (ok_law_same T n)
/-! ### _law_lowest -/
def sp_law_lowest (T : Txt K mg) : Sp := fun vs H Q _ => ∃ (d : Int), vs = [.int 1, .int d] ∧ 0 < d ∧ ∀ (U : Addr) (H' : Hp), Same H H' → H' U = some (.tup [.int 1, .int d]) → Q (.ref U) H'

theorem ok_law_lowest (T : Txt K mg) : FnOk P w K mg base CX0 1 T.a_law_lowest T.d_law_lowest ["num", "den"] (sp_law_lowest T) := by
  refine T.F_law_lowest.ok sc_law_lowest (fun vs H Q E h => ?_) (fun cdv A outer s H vs Q E hr h => ?_)
  · obtain ⟨d, rfl, _⟩ := h
    rfl
  obtain ⟨d, rfl, d0, q⟩ := h
  refine ⟨_, (pss_cons (ps_set (i := 2) sc_law_lowest.nd rfl (by first | exact Or.inl rfl | exact Or.inr rfl) (pe_callB call_abs (by rfl) T.z_abs (by first | exact PySem.boot_abs | decide +kernel) (pa_cons (pv 0) pa_nil)))
      (pss_cons (ps_set (i := 3) sc_law_lowest.nd rfl (by first | exact Or.inl rfl | exact Or.inr rfl) (pv 1))
      (pss_cons (ps_for PassesOwn.never rfl (pi_range1 (by rfl) T.z_range (pa_cons pe_int pa_nil)) (pg_name (i := 4) sc_law_lowest.nd rfl (by first | exact Or.inl rfl | exact Or.inr rfl)) (pss_cons (ps_if (pt_cmpR op_eq (pv 3) pe_int (nomark _)) (pss_one ps_break) pss_nil)
      (pss_cons (ps_set (i := 5) sc_law_lowest.nd rfl (by first | exact Or.inl rfl | exact Or.inr rfl) (pe_op op_mod (pe_callTy call_int1 (by rfl) T.z_int (by first | exact PySem.boot_int | decide +kernel) (pa_cons (pv 2) pa_nil)) (pv 3)))
      (pss_cons (ps_set (i := 2) sc_law_lowest.nd rfl (by first | exact Or.inl rfl | exact Or.inr rfl) (pv 3))
      (pss_one (ps_set (i := 3) sc_law_lowest.nd rfl (by first | exact Or.inl rfl | exact Or.inr rfl) (pv 5)))))))
      (pss_one (ps_ret (pe_tup (pa_cons (pe_op op_fdivX (pv 0) (pv 2)) (pa_cons (pe_op op_fdivX (pv 1) (pv 2)) pa_nil)))))))), ?_⟩
  refine ⟨_, rfl, _, rfl, ?_⟩
  refine ⟨_, rfl, 4000, rfl, by decide, by decide, for_range (fun i σ' H' => ∃ (a b : Int) (y4 y5 : Option V), σ' = [some (.int 1), some (.int d), some (.int a), some (.int b), y4, y5] ∧ H' = H ∧ ((i = 0 ∧ a = 1 ∧ b = d) ∨ (i = 1 ∧ a = d ∧ b = 1 % d) ∨ (i = 2 ∧ a = 1 ∧ b = 0))) ⟨1, d, _, _, rfl, rfl, .inl ⟨rfl, rfl, rfl⟩⟩ ?_ ?_⟩
  · rintro i σ' H' hi ⟨a, b, y4, y5, rfl, rfl, hc⟩
    have one : d = 1 ∨ (1 < d ∧ 1 % d = 1) := by
      by_cases y : d = 1
      · exact .inl y
      · exact .inr ⟨by omega, Int.emod_eq_of_lt (by decide) (by omega)⟩
    refine ⟨_, rfl, rfl, _, rfl, ite2 (fun c => ?_) (fun c => ?_)⟩
    · have b0 : b = 0 := V.int.inj (of_decide_eq_true c)
      have a1 : a = 1 := by
        rcases hc with ⟨_, h1, h2⟩ | ⟨_, h1, h2⟩ | ⟨_, h1, h2⟩
        · omega
        · rcases one with y | ⟨y, z⟩
          · omega
          · omega
        · exact h1
      subst a1
      refine ⟨_, rfl, _, rfl, _, _, rfl, rfl, ⟨by decide, by decide⟩, _, rfl, _, rfl, _, _, rfl, rfl, ⟨by decide, by decide⟩, by show 2 ≤ sizeLine; decide, fun U hU => q U _ (same_upd hU) ?_⟩
      rw [upd_same]
      show some (HO.tup [V.int ((1 : Int).fdiv 1), V.int (d.fdiv 1)]) = _
      rw [Int.fdiv_one, Int.fdiv_one]
    · have b0 : b ≠ 0 := fun z => c (decide_eq_true (congrArg V.int z))
      have bp : 0 < b := by
        rcases hc with ⟨_, h1, h2⟩ | ⟨_, h1, h2⟩ | ⟨_, h1, h2⟩
        · omega
        · have := Int.emod_nonneg 1 (show d ≠ 0 by omega)
          omega
        · omega
      refine ⟨_, rfl, .inl ⟨_, rfl, _, rfl, _, _, rfl, rfl, bp, _, rfl, _, rfl, ⟨b, a % b, _, _, rfl, rfl, ?_⟩⟩⟩
      rcases hc with ⟨h0, h1, h2⟩ | ⟨h0, h1, h2⟩ | ⟨h0, h1, h2⟩
      · exact .inr (.inl ⟨by omega, h2, by rw [h1, h2]⟩)
      · rcases one with y | ⟨y, z⟩
        · subst y
          exact absurd h2 b0
        · have b1 : b = 1 := h2.trans z
          refine .inr (.inr ⟨by omega, b1, ?_⟩)
          rw [b1]
          exact Int.emod_one a
      · exact absurd h2 b0
  · rintro σ' H' ⟨a, b, y4, y5, rfl, rfl, hc⟩
    rcases hc with ⟨h0, _⟩ | ⟨h0, _⟩ | ⟨h0, _⟩
    · exact absurd h0 (by decide)
    · exact absurd h0 (by decide)
    · exact absurd h0 (by decide)
/-! ### _law_is_ratio -/
def sp_law_is_ratio (T : Txt K mg) : Sp := fun vs H Q _ => ∃ (r : Addr) (p q d : Int), vs = [.ref r, .int 1, .int d] ∧ RatAt T.C_Ratio H r p q ∧ Rt p q 1 d ∧ 0 < d ∧ ∀ H', Same H H' → Q (.bl true) H'

theorem ok_law_is_ratio (T : Txt K mg) : FnOk P w K mg base CX0 9 T.a_law_is_ratio T.d_law_is_ratio ["actual", "num", "den"] (sp_law_is_ratio T) := by
  refine T.F_law_is_ratio.ok sc_law_is_ratio (fun vs H Q E h => ?_) (fun cdv A outer s H vs Q E hr h => ?_)
  · obtain ⟨r, p, q, d, rfl, _⟩ := h
    rfl
  obtain ⟨r, p, q, d, rfl, ⟨dx, er⟩, hR, d0, k⟩ := h
  refine ⟨_, (pss_cons (ps_set (i := 3) sc_law_is_ratio.nd rfl (by first | exact Or.inl rfl | exact Or.inr rfl) (pe_call (ok_law_lowest T) (hr.mono (by decide)) (by rfl) T.m_law_lowest T.F_law_lowest.kp T.b_law_lowest .nil pass0 (pa_cons (pv 1) (pa_cons (pv 2) pa_nil))))
      (pss_one (ps_ret (pe_and (pe_callB (C8.call_isC T.ic_Ratio) (by rfl) T.z_isinstance (by first | exact PySem.boot_isinstance | decide +kernel) (pa_cons (pv 0) (pa_cons (pe_glob (v := .ref T.C_Ratio) (by rfl) T.m_Ratio rfl) pa_nil))) (pe_one (pe_call (ok_law_same T 8) (hr.mono (by decide)) (by rfl) T.m_law_same T.F_law_same.kp T.b_law_same .nil pass0 (pa_cons (pe_lst (pa_cons (pe_fld (pv 0) rfl) (pa_cons (pe_fld (pv 0) rfl) pa_nil))) (pa_cons (pe_callTy call_list_of (by rfl) T.z_list (by first | exact PySem.boot_list | decide +kernel) (pa_cons (pv 3) pa_nil)) pa_nil)))))))), ?_⟩
  have R1 : Rt 1 d 1 d := ⟨d0, by simp, rfl⟩
  obtain ⟨p1, q1⟩ := rt_uniq hR R1 (by omega) (by omega) rfl
  subst p1 q1
  refine ⟨_, rfl, _, rfl, q, rfl, d0, fun U H1 s1 hU => ?_⟩
  refine ⟨_, rfl, r, dx, _, rfl, s1 _ _ er, true, rfl, iteT ?_⟩
  refine ⟨_, rfl, r, T.C_Ratio, dx, _, _, rfl, s1 _ _ er, T.cl_Ratio, T.n_Ratio_num, pf_num _ _, _, rfl, r, T.C_Ratio, dx, _, _, rfl, s1 _ _ er, T.cl_Ratio, T.n_Ratio_den, pf_den _ _, by show 2 ≤ sizeLine; decide, fun L1 g1 => ?_⟩
  have s2 := same_upd (o := .lst [V.int 1, V.int q]) g1
  refine ⟨_, rfl, U, _, rfl, .inr (SqT.of (s2 _ _ hU)), fun L2 g2 => ?_⟩
  have s3 := same_upd (o := .lst [V.int 1, V.int q]) g2
  exact ⟨_, _, .list ([1, q].map PyData.int), rfl, Da.ints (s3 _ _ upd_same), Da.ints upd_same, by simp [PyData.depth, PyData.depthAll], by simp [wide, wideAll], k _ ((s1.trans s2).trans s3)⟩
/-! ### _law_following -/
def sp_law_following (T : Txt K mg) : Sp := fun vs H Q _ => ∃ (a : Addr) (vl : List V) (ts : List (Int × Int)), vs = [.ref a] ∧ H a = some (.lst vl) ∧ Paired (TupV H) vl ts ∧ ts.length ≤ 100 ∧ ∀ (v : V) (H' : Hp), Same H H' → FolV H' (fol ts) v → Q v H'

theorem ok_law_following (T : Txt K mg) : FnOk P w K mg base CX0 1 T.a_law_following T.d_law_following ["taken"] (sp_law_following T) := by
  refine T.F_law_following.ok sc_law_following (fun vs H Q E h => ?_) (fun cdv A outer s H vs Q E hr h => ?_)
  · obtain ⟨a, vl, ts, rfl, _⟩ := h
    rfl
  obtain ⟨a, vl, ts, rfl, ha, hp, hl, q⟩ := h
  refine ⟨_, (pss_cons (ps_for PassesOwn.never rfl (pi_range3 (by rfl) T.z_range (pa_cons (pe_op op_sub (pe_callB call_len_seq (by rfl) T.z_len (by first | exact PySem.boot_len | decide +kernel) (pa_cons (pv 0) pa_nil)) pe_int) (pa_cons (pe_un un_neg pe_int) (pa_cons (pe_un un_neg pe_int) pa_nil)))) (pg_name (i := 1) sc_law_following.nd rfl (by first | exact Or.inl rfl | exact Or.inr rfl)) (pss_one (ps_if (pt_cmpR op_lt (pe_op op_add (pe_ix ix_tup (pe_ix ix_list (pv 0) (pv 1) (fun _ _ => rfl)) pe_int (fun _ _ => rfl)) pe_int) (pe_ix ix_tup (pe_ix ix_list (pv 0) (pv 1) (fun _ _ => rfl)) pe_int (fun _ _ => rfl)) (nomark _)) (pss_one (ps_ret (pe_op op_cat (pe_lc (own := [("j", 2)]) (g := gName 2) (tt := tYes) rfl sc_law_following.nd (pi_range1 (by rfl) T.z_range (pa_cons (pv 1) pa_nil)) (blkOk_by (N := N_law_following) (sc := defScope s_law_following) (by decide +kernel)) (fun _ _ _ _ _ => (pg_name (i := 2) sc_law_following.nd rfl (by first | exact Or.inl rfl | exact Or.inr rfl))) (fun _ _ _ _ _ => pts_nil) (fun _ _ _ _ _ => (pe_ix (show IxR _ (rIxT K) from ix_tup) (pe_ix (show IxR _ (rIxL K) from ix_list) (pv 0) (pv 2) (fun _ _ => rfl)) pe_int (fun _ _ => rfl)))) (pe_lst (pa_cons (pe_op op_add (pe_ix ix_tup (pe_ix ix_list (pv 0) (pv 1) (fun _ _ => rfl)) pe_int (fun _ _ => rfl)) pe_int) pa_nil))))) pss_nil)))
      (pss_one (ps_ret pe_non))), ?_⟩
  have vle := Paired.length hp
  refine ⟨_, rfl, a, vl, rfl, .inl (SqL.of ha), _, _, rfl, rfl, _, rfl, _, rfl, _, _, _, _, rfl, RgC.neg (by omega) (by omega) (by decide) (by decide), ?_⟩
  have e0 : ((vl.length : Int) - 1 - -1).toNat = ts.length := by omega
  rw [e0]
  refine for_rangeC (fun i σ' H' => ∃ (y1 y2 : Option V), σ' = [some (.ref a), y1, y2] ∧ H' = H ∧ fol (ts.drop (ts.length - i)) = none) ⟨_, _, rfl, rfl, by rw [Nat.sub_zero, List.drop_length]; rfl⟩ ?_ ?_
  · rintro i σ' H' hi ⟨y1, y2, rfl, rfl, fn⟩
    have hj : ts.length - 1 - i < ts.length := by omega
    obtain ⟨⟨d, c⟩, ht⟩ : ∃ t, ts[ts.length - 1 - i]? = some t := ⟨_, List.getElem?_eq_getElem hj⟩
    obtain ⟨v, hv, U, rfl, hU⟩ := pget' hp ht
    have e1 : ts.length - i = ts.length - 1 - i + 1 := by omega
    rw [e1] at fn
    have ez : (vl.length : Int) - 1 + (i : Int) * -1 = ((ts.length - 1 - i : Nat) : Int) := by omega
    revert ht hv fn hj ez
    generalize ej : ts.length - 1 - i = j
    intro fn hj ht hv ez
    refine ⟨_, rfl, _, rfl, a, vl, _, .ref U, rfl, rfl, SqL.of ha, at_ofG (j := j) ez hv, U, _, 0, .int d, rfl, rfl, SqT.of hU, atI_nat (j := 0) rfl, _, _, rfl, rfl, _, rfl, _, rfl, a, vl, _, .ref U, rfl, rfl, SqL.of ha, at_ofG (j := j) ez hv, U, _, 1, .int c, rfl, rfl, SqT.of hU, atI_nat (j := 1) rfl, _, _, rfl, rfl, _, rfl, ite2 (fun cc => ?_) (fun cc => ?_)⟩
    · have cc' : d + 1 < c := of_decide_eq_true cc
      refine ⟨_, rfl, (j : Int), congrArg (fun z => [V.int z]) ez, by omega, by omega, fun D hD => ?_⟩
      refine lc_range (fun k H2 => Same H' H2 ∧ H2 D = some (.lst (((ts.take k).map (·.1)).map V.int))) ⟨same_upd hD, upd_same⟩ (fun k H2 hk h2 => ?_) (fun H2 h2 => ?_)
      · obtain ⟨s2, e2⟩ := h2
        have kj : k < j := by omega
        obtain ⟨t', ht'⟩ : ∃ t, ts[k]? = some t := ⟨_, List.getElem?_eq_getElem (by omega)⟩
        obtain ⟨v', hv', U2, rfl, hU2⟩ := pget' hp ht'
        have ek : (0 : Int) + (k : Int) = ((k : Nat) : Int) := Int.zero_add _
        refine ⟨rfl, ?_⟩
        refine ⟨_, rfl, _, rfl, a, vl, _, .ref U2, rfl, rfl, SqL.of (s2 _ _ ha), at_ofG (j := k) ek hv', U2, _, 0, .int t'.1, rfl, rfl, SqT.of (s2 _ _ hU2), atI_nat (j := 0) rfl, ?_⟩
        refine ⟨_, e2, ?_, ?_, ?_⟩
        · rw [List.length_map, List.length_map, List.length_take]
          exact small1000 (by omega)
        · intro b o eb
          rw [upd_ne (ne_of_none eb hD)]
          exact s2 b o eb
        · rw [upd_same, heads_step ht', List.map_append]
          rfl
      · obtain ⟨s2, e2⟩ := h2
        have tj : ((j : Int)).toNat = j := Int.toNat_natCast j
        rw [tj] at e2
        refine ⟨_, rfl, _, rfl, a, vl, _, .ref U, rfl, rfl, SqL.of (s2 _ _ ha), at_ofG (j := j) ez hv, U, _, 0, .int d, rfl, rfl, SqT.of (s2 _ _ hU), atI_nat (j := 0) rfl, _, _, rfl, rfl, by show 1 ≤ sizeLine; decide, fun L1 g1 => ?_⟩
        have s3 := same_upd (o := .lst [V.int (d + 1)]) g1
        refine ⟨D, L1, _, _, rfl, rfl, s3 _ _ e2, upd_same, ?_, fun L2 g2 => ?_⟩
        · rw [List.length_map, List.length_map, List.length_take]
          exact small_le (by show _ + 1 ≤ 1000; omega)
        · refine q (.ref L2) _ ((s2.trans s3).trans (same_upd g2)) ?_
          rw [fol_at ht cc' fn]
          refine ⟨L2, rfl, ?_⟩
          rw [upd_same, List.map_append]
          rfl
    · have cc' : ¬ d + 1 < c := fun z => cc (decide_eq_true z)
      refine ⟨_, _, rfl, rfl, ?_⟩
      have e2 : ts.length - (i + 1) = j := by omega
      rw [e2]
      exact fol_step ht cc' fn
  · rintro σ' H' ⟨y1, y2, rfl, rfl, fn⟩
    rw [Nat.sub_self, List.drop_zero] at fn
    exact q .non H' (Same.refl H') (by rw [fn]; rfl)
/-! ### _law_told -/
def sp_law_told (T : Txt K mg) : Sp := fun vs H Q _ => ∃ (x rl tl a : Addr) (vl : List V) (rs : List Int) (ts : List (Int × Int)), vs = [.ref x, .ref a] ∧ TapeAt T.C_Tape H x rl tl rs ts ∧ H a = some (.lst vl) ∧ Paired (TupV H) vl ts ∧ OkT ts ∧ ts.length ≤ 100 ∧ ∀ H', Same H H' → Q (.bl true) H'

theorem ok_law_told (T : Txt K mg) : FnOk P w K mg base CX0 10 T.a_law_told T.d_law_told ["tape", "taken"] (sp_law_told T) := by
  refine T.F_law_told.ok sc_law_told (fun vs H Q E h => ?_) (fun cdv A outer s H vs Q E hr h => ?_)
  · obtain ⟨x, rl, tl, a, vl, rs, ts, rfl, _⟩ := h
    rfl
  obtain ⟨x, rl, tl, a, vl, rs, ts, rfl, hT, ha, hp, ok, hl, q⟩ := h
  refine ⟨_, (pss_cons (ps_set (i := 2) sc_law_told.nd rfl (by first | exact Or.inl rfl | exact Or.inr rfl) pe_int)
      (pss_cons (ps_for PassesOwn.never rfl (pi_list (pv 1)) (pg_name (i := 3) sc_law_told.nd rfl (by first | exact Or.inl rfl | exact Or.inr rfl)) (pss_one (ps_set (i := 2) sc_law_told.nd rfl (by first | exact Or.inl rfl | exact Or.inr rfl) (pe_op op_mul (pv 2) (pe_ix ix_tup (pv 3) pe_int (fun _ _ => rfl))))))
      (pss_cons (ps_if (PW.pt (pw_or (pt_not (pt_truth (pe_call (ok_law_same T 8) (hr.mono (by decide)) (by rfl) T.m_law_same T.F_law_same.kp T.b_law_same .nil pass0 (pa_cons (pe_fld (pv 0) rfl) (pa_cons (pv 1) pa_nil))) (fun _ => rfl))) (pw_or1 (pt_not (pt_truth (pe_call (ok_law_is_ratio T) (hr.mono (by decide)) (by rfl) T.m_law_is_ratio T.F_law_is_ratio.kp T.b_law_is_ratio .nil pass0 (pa_cons (pe_meth0 (pv 0) T.cl_Tape T.me_Tape_chance (ok_Tape_chance T) (hr.mono (by decide)) T.b_Tape_chance .nil pass0) (pa_cons pe_int (pa_cons (pv 2) pa_nil)))) (fun _ => rfl)))))) (pss_one (ps_ret pe_bl)) pss_nil)
      (pss_one (ps_ret (pe_call (ok_law_same T 8) (hr.mono (by decide)) (by rfl) T.m_law_same T.F_law_same.kp T.b_law_same .nil pass0 (pa_cons (pe_meth0 (pv 0) T.cl_Tape T.me_Tape_following (ok_Tape_following T) (hr.mono (by decide)) T.b_Tape_following .nil pass0) (pa_cons (pe_call (ok_law_following T) (hr.mono (by decide)) (by rfl) T.m_law_following T.F_law_following.kp T.b_law_following .nil pass0 (pa_cons (pv 1) pa_nil)) pa_nil)))))))), ?_⟩
  have vle := Paired.length hp
  refine ⟨_, rfl, a, rfl, ⟨_, SqL.of ha⟩, for_list (K := K) (a := a) (xs := vl) (fun i σ' H' => ∃ (y : Option V), σ' = [some (.ref x), some (.ref a), some (.int (prodC (ts.take i))), y] ∧ H' = H) ⟨none, rfl, rfl⟩ ?_ ?_ ?_⟩
  · rintro i σ' H' _ ⟨y, rfl, rfl⟩
    exact SqL.of ha
  · rintro i v σ' H' hi ⟨y, rfl, rfl⟩
    obtain ⟨t, ht, U, rfl, hU⟩ := pget hp hi
    obtain ⟨t0, t1⟩ := ok t (List.mem_of_getElem? ht)
    refine ⟨_, rfl, _, rfl, U, _, 1, .int t.2, rfl, rfl, SqT.of hU, atI_nat (j := 1) rfl, _, _, rfl, rfl, .inr ⟨by omega, by omega⟩, ⟨some (.ref U), ?_, rfl⟩⟩
    rw [List.take_add_one, ht]
    show [some (V.ref x), some (V.ref a), some (V.int (prodC (ts.take i) * t.2)), some (V.ref U)] = [some (V.ref x), some (V.ref a), some (V.int (prodC (ts.take i ++ [t]))), some (V.ref U)]
    rw [prodC_snoc]
  · rintro σ' H' ⟨y, rfl, rfl⟩
    rw [vle, List.take_of_length_le (Nat.le_refl _)]
    obtain ⟨⟨dx, hx⟩, hR, vs, hTl, hpt⟩ := id hT
    obtain ⟨k1, k2⟩ := tsD_ok hl
    refine ⟨_, rfl, x, T.C_Tape, dx, _, _, rfl, hx, T.cl_Tape, T.n_Tape_taken, tpf_t _ _, _, rfl, _, _, tsD ts, rfl, Da.pairs hTl hpt, Da.pairs ha hp, k1, k2, true, rfl, iteF ?_⟩
    obtain ⟨p0, _⟩ := prod_bd ok
    have nc : (tpf rl tl).lookup ("chance" : Str) = none := tpf_no _ _ (by decide +kernel) (by decide +kernel)
    have nf : (tpf rl tl).lookup ("following" : Str) = none := tpf_no _ _ (by decide +kernel) (by decide +kernel)
    refine ⟨_, rfl, x, dx, _, rfl, hx, nc, x, rl, tl, rs, ts, rfl, hT, ok, hl, fun r p q' H2 s2 R2 rt => ?_⟩
    refine ⟨_, rfl, r, p, q', prodC ts, rfl, R2, rt, p0, fun H3 s3 => ⟨_, rfl, iteF ?_⟩⟩
    have sA := s2.trans s3
    refine ⟨_, rfl, x, dx, _, rfl, sA _ _ hx, nf, x, rl, tl, rs, ts, rfl, hT.same sA, hl, fun v H4 s4 F4 => ?_⟩
    have sB := sA.trans s4
    refine ⟨_, rfl, a, vl, ts, rfl, sB _ _ ha, Paired.mono (fun _ _ h => h.keep (keepT_of sB)) hp, hl, fun w H5 s5 F5 => ?_⟩
    exact ⟨v, w, folD (fol ts), rfl, (F4.same s5).da, F5.da, (folD_ok hl).1, (folD_ok hl).2, q _ (sB.trans s5)⟩
/-! ### _law_one -/
theorem TapeAt.but {C : Addr} {H H' : Hp} {p x rl tl : Addr} {rs : List Int} {ts : List (Int × Int)} {ys : List V} (h : TapeAt C H x rl tl rs ts) (b : But p H H') (hp : H p = some (.lst ys)) (n1 : rl ≠ p) (n2 : tl ≠ p) : TapeAt C H' x rl tl rs ts := by
  obtain ⟨⟨dx, e⟩, hr, vs, h1, h2⟩ := h
  have nx : x ≠ p := fun z => by
    rw [z, hp] at e
    cases e
  exact ⟨⟨dx, b _ _ nx e⟩, b _ _ n1 hr, vs, b _ _ n2 h1, Paired.mono (fun _ _ h => h.keep (b.keepT hp)) h2⟩
theorem Pool.at {p c : Addr} {b : Int} {H : Hp} (h : Pool H p c b) : ∃ ys, H p = some (.lst ys) := by
  obtain ⟨ns, i, r, s, t, hp, _⟩ := h
  exact ⟨_, hp⟩
theorem Pool.butl {p c d : Addr} {b : Int} {H H' : Hp} (h : Pool H p c b) (k : ∀ z o, z ≠ d → H z = some o → H' z = some o) (n1 : d ≠ p) (n2 : d ≠ c) : Pool H' p c b := by
  obtain ⟨ns, i, r, s, t, hp, hc, h0, n⟩ := h
  exact ⟨ns, i, r, s, t, k _ _ n1.symm hp, k _ _ n2.symm hc, h0, n⟩
def sp_law_one (T : Txt K mg) : Sp := fun vs H Q _ => ∃ (p c : Addr) (b : Int), vs = [.ref p] ∧ Pool H p c b ∧ ∀ H', Pool H' p c b → Q (.bl true) H'

theorem ok_law_one (T : Txt K mg) : FnOk P w K mg base CX0 11 T.a_law_one T.d_law_one ["pool"] (sp_law_one T) := by
  refine T.F_law_one.ok sc_law_one (fun vs H Q E h => ?_) (fun cdv A outer s H vs Q E hr h => ?_)
  · obtain ⟨p, c, b, rfl, _⟩ := h
    rfl
  obtain ⟨p, c, b, rfl, hP, q⟩ := h
  refine ⟨_, (pss_cons (ps_setLc (i := 1) (own := [("k", 5)]) (g := gName 5) (tt := tYes) rfl sc_law_one.nd rfl rfl (sw_true rfl rfl rfl (by decide +kernel)) (pi_range1 (by rfl) T.z_range (pa_cons (pe_call (ok_law_draw T) (hr.mono (by decide)) (by rfl) T.m_law_draw T.F_law_draw.kp T.b_law_draw .nil pass0 (pa_cons (pv 0) (pa_cons pe_int pa_nil))) pa_nil)) (blkOk_by (N := N_law_one) (sc := defScope s_law_one) (by decide +kernel)) (fun _ _ _ _ _ => (pg_name (i := 5) sc_law_one.nd rfl (by first | exact Or.inl rfl | exact Or.inr rfl))) (fun _ _ _ _ _ => pts_nil) (fun _ _ _ _ _ => (pe_op op_add (pe_call (ok_law_number T) (hr.mono (by decide)) (by rfl) T.m_law_number T.F_law_number.kp T.b_law_number .nil pass0 (pa_cons (pv 0) pa_nil)) (pe_ix (show IxR _ (rIxT K) from ix_tup) (pe_tup (pa_cons pe_int (pa_cons pe_int (pa_cons (pe_op op_mul pe_int (pe_call (ok_law_draw T) (hr.mono (by decide)) (by rfl) T.m_law_draw T.F_law_draw.kp T.b_law_draw .nil pass0 (pa_cons (pv 0) (pa_cons (pe_op op_pow pe_int pe_int) pa_nil)))) pa_nil)))) (pe_call (ok_law_draw T) (hr.mono (by decide)) (by rfl) T.m_law_draw T.F_law_draw.kp T.b_law_draw .nil pass0 (pa_cons (pv 0) (pa_cons pe_int pa_nil))) (fun _ _ => rfl)))))
      (pss_cons (ps_set (i := 2) sc_law_one.nd rfl (by first | exact Or.inl rfl | exact Or.inr rfl) (pe_callTy call_list_of (by rfl) T.z_list (by first | exact PySem.boot_list | decide +kernel) (pa_cons (pv 1) pa_nil)))
      (pss_cons (ps_set (i := 3) sc_law_one.nd rfl (by first | exact Or.inl rfl | exact Or.inr rfl) (pe_make T.mk_Tape (ok_Tape_init T) (hr.mono (by decide)) (by rfl) T.m_Tape T.b_Tape_init .nil pass0 (pa_cons (pv 2) pa_nil)))
      (pss_cons (ps_if (pt_cmpR (op_neD hr.units) (pv 2) (pv 1) (nomark _)) (pss_one (ps_ret pe_bl)) pss_nil)
      (pss_cons (ps_expr (pe_bm PySem.F.plainAttrs_list PySem.F.slot_list_append PySem.F.type_list_append mt_append (pv 2) (pa_cons pe_int pa_nil)))
      (pss_cons (ps_set (i := 4) sc_law_one.nd rfl (by first | exact Or.inl rfl | exact Or.inr rfl) (pe_lst pa_nil))
      (pss_cons (ps_for PassesOwn.never rfl (pi_range1 (by rfl) T.z_range (pa_cons (pe_call (ok_law_draw T) (hr.mono (by decide)) (by rfl) T.m_law_draw T.F_law_draw.kp T.b_law_draw .nil pass0 (pa_cons (pv 0) (pa_cons pe_int pa_nil))) pa_nil)) (pg_name (i := 5) sc_law_one.nd rfl (by first | exact Or.inl rfl | exact Or.inr rfl)) (pss_cons (ps_if (pt_not (pt_truth (pe_call (ok_law_told T) (hr.mono (by decide)) (by rfl) T.m_law_told T.F_law_told.kp T.b_law_told .nil pass0 (pa_cons (pv 3) (pa_cons (pv 4) pa_nil))) (fun _ => rfl))) (pss_one (ps_ret pe_bl)) pss_nil)
      (pss_cons (ps_set (i := 6) sc_law_one.nd rfl (by first | exact Or.inl rfl | exact Or.inr rfl) (pe_op op_add pe_int (pe_call (ok_law_draw T) (hr.mono (by decide)) (by rfl) T.m_law_draw T.F_law_draw.kp T.b_law_draw .nil pass0 (pa_cons (pv 0) (pa_cons pe_int pa_nil)))))
      (pss_cons (ps_set (i := 7) sc_law_one.nd rfl (by first | exact Or.inl rfl | exact Or.inr rfl) pe_int)
      (C8.pss_cut (ps_if (pt_cmpR op_lt (pv 5) (pe_callB call_len_seq (by rfl) T.z_len (by first | exact PySem.boot_len | decide +kernel) (pa_cons (pv 1) pa_nil)) (nomark _)) (pss_one (ps_set (i := 7) sc_law_one.nd rfl (by first | exact Or.inl rfl | exact Or.inr rfl) (pe_op op_mod (pe_callTy call_int1 (by rfl) T.z_int (by first | exact PySem.boot_int | decide +kernel) (pa_cons (pe_ix ix_list (pv 1) (pv 5) (fun _ _ => rfl)) pa_nil)) (pv 6)))) pss_nil)
      (pss_cons (ps_expr (pe_bm PySem.F.plainAttrs_list PySem.F.slot_list_append PySem.F.type_list_append mt_append (pv 4) (pa_cons (pe_tup (pa_cons (pv 7) (pa_cons (pv 6) pa_nil))) pa_nil)))
      (pss_one (ps_if (pt_not (pt_truth (pe_call (ok_law_same T 8) (hr.mono (by decide)) (by rfl) T.m_law_same T.F_law_same.kp T.b_law_same .nil pass0 (pa_cons (pe_meth (pv 3) T.cl_Tape T.me_Tape_take (ok_Tape_take T) (hr.mono (by decide)) T.b_Tape_take .nil pass0 (pa_cons (pv 6) pa_nil)) (pa_cons (pv 7) pa_nil))) (fun _ => rfl))) (pss_one (ps_ret pe_bl)) pss_nil))))))))
      (pss_one (ps_ret (pe_and (pe_call (ok_law_told T) (hr.mono (by decide)) (by rfl) T.m_law_told T.F_law_told.kp T.b_law_told .nil pass0 (pa_cons (pv 3) (pa_cons (pv 4) pa_nil))) (pe_one (pe_cmpR (op_eqD hr.units) (pv 2) (pe_op op_cat (pv 1) (pe_lst (pa_cons pe_int pa_nil))) (nomark _))))))))))))), ?_⟩
  refine ⟨_, rfl, p, c, 9, b, rfl, by decide, by decide, hP, fun n H1 n0 n1 b1 P1 => ?_⟩
  refine ⟨n, rfl, by omega, by omega, fun D hD => ?_⟩
  have nD := P1.ne hD
  have nD2 := P1.ne2 hD
  refine lc_range (fun i H' => ∃ rs : List Int, rs.length = i ∧ H' D = some (.lst (rs.map V.int)) ∧ Pool H' p c b) ⟨[], rfl, upd_same, P1.upd nD nD2 _⟩ (fun i H2 hi ⟨rs, el, e2, P2⟩ => ?_) (fun H2 ⟨rs, el, e2, P2⟩ => ?_)
  · refine ⟨rfl, ?_⟩
    refine ⟨_, rfl, p, c, b, rfl, P2, fun k H3 b3 P3 => ?_⟩
    refine ⟨_, rfl, _, _, rfl, rfl, ⟨by decide, by decide, by decide⟩, p, c, 10 ^ 13, b, rfl, by decide, by decide, P3, fun m H4 m0 m1 b4 P4 => ?_⟩
    refine ⟨_, _, rfl, rfl, .inl ⟨by decide, by decide⟩, by show 3 ≤ sizeLine; decide, fun U hU => ?_⟩
    refine ⟨_, rfl, p, c, 3, b, rfl, by decide, by decide, P4.upd (P4.ne hU) (P4.ne2 hU) _, fun r H5 r0 r1 b5 P5 => ?_⟩
    obtain ⟨g, hg⟩ : ∃ g, atI [V.int 0, .int 0, .int (65537 * m)] r = some (.int g) := by
      by_cases y : r = 0
      · exact ⟨0, by rw [y]; exact atI_nat (j := 0) rfl⟩
      · by_cases y2 : r = 1
        · exact ⟨0, by rw [y2]; exact atI_nat (j := 1) rfl⟩
        · have : r = 2 := by omega
          exact ⟨65537 * m, by rw [this]; exact atI_nat (j := 2) rfl⟩
    have e5 : H5 D = some (.lst (rs.map V.int)) := b5 _ _ nD ((same_upd hU) _ _ (b4 _ _ nD (b3 _ _ nD e2)))
    refine ⟨U, _, r, .int g, rfl, rfl, SqT.of (b5 _ _ (P4.ne hU) upd_same), hg, _, _, rfl, rfl, ?_⟩
    refine ⟨_, e5, ?_, rs ++ [k + g], by rw [List.length_append, el]; rfl, ?_, P5.upd nD nD2 _⟩
    · rw [List.length_map, el]
      exact small1000 (by omega)
    · rw [upd_same, List.map_append]
      rfl
  clear b1 P1 hD
  refine ⟨_, rfl, D, _, rfl, .inl (SqL.of e2), fun L hL => ?_⟩
  have sL := same_upd (o := .lst (rs.map V.int)) hL
  have PL := P2.same sL
  have nL := P2.ne hL
  have nL2 := P2.ne2 hL
  have eDL : D ≠ L := ne_of_none e2 hL
  refine ⟨_, rfl, make_tape T (SqL.of upd_same) fun x rl tl H3 s3 fx fr ft nrt hT => ?_⟩
  have P3 := PL.same s3
  have e3 := s3 _ _ (sL _ _ e2)
  have l3 := s3 _ _ (upd_same (H := H2) (a := L) (o := .lst (rs.map V.int)))
  have r1 := PL.ne fr
  have r2 := PL.ne ft
  have r2c := PL.ne2 ft
  have dr : D ≠ rl ∧ D ≠ tl := ⟨ne_of_none (sL _ _ e2) fr, ne_of_none (sL _ _ e2) ft⟩
  have lr : L ≠ rl ∧ L ≠ tl := ⟨ne_of_none upd_same fr, ne_of_none upd_same ft⟩
  refine ⟨_, rfl, _, rfl, .list (rs.map PyData.int), .list (rs.map PyData.int), .lst (SqL.of l3) (dp_ints rs), .lst (SqL.of e3) (dp_ints rs), shaped_ints rs, shaped_ints rs, _, rfl, ?_⟩
  rw [eqv_ints]
  refine iteF ?_
  clear s3 fx fr ft PL P2 e2 sL hL
  refine ⟨_, rfl, .inl ⟨rfl, _, SqL.of l3⟩, L, _, _, rfl, rfl, l3, by rw [List.length_map]; exact small1000 (by omega), ?_⟩
  have hT4 := hT.but (but_upd (o := .lst (rs.map V.int ++ [V.int 1]))) l3 lr.1.symm lr.2.symm
  have P4 := P3.upd nL nL2 (.lst (rs.map V.int ++ [V.int 1]))
  have e4 : (upd H3 L (.lst (rs.map V.int ++ [V.int 1]))) D = some (.lst (rs.map V.int)) := by
    rw [upd_ne eDL]
    exact e3
  have l4 : (upd H3 L (.lst (rs.map V.int ++ [V.int 1]))) L = some (.lst ((rs ++ [1]).map V.int)) := by
    rw [upd_same, List.map_append]
    rfl
  revert hT4 P4 e4 l4
  generalize upd H3 L (.lst (rs.map V.int ++ [V.int 1])) = HA
  intro hT4 P4 e4 l4
  clear hT P3 e3 l3
  refine ⟨by show 0 ≤ sizeLine; decide, fun tk htk => ?_⟩
  have sk := same_upd (o := .lst []) htk
  have k1 := P4.ne htk
  have k2 := P4.ne2 htk
  obtain ⟨⟨dx, hx4⟩, hr4, vs4, ht4, hp4⟩ := id hT4
  have kr : rl ≠ tk := ne_of_none hr4 htk
  have kt : tl ≠ tk := ne_of_none ht4 htk
  have kx : x ≠ tk := ne_of_none hx4 htk
  have kD : D ≠ tk := ne_of_none e4 htk
  have kL : L ≠ tk := ne_of_none l4 htk
  refine ⟨_, rfl, p, c, 11, b, rfl, by decide, by decide, P4.same sk, fun m H6 m0 m1 b6 P6 => ⟨m, rfl, by omega, by omega, ?_⟩⟩
  obtain ⟨ysp, hpp⟩ := (P4.same sk).at
  refine for_range (fun i σ' H' => ∃ (ts : List (Int × Int)) (vl : List V) (y5 y6 y7 : Option V), σ' = [some (.ref p), some (.ref D), some (.ref L), some (.ref x), some (.ref tk), y5, y6, y7] ∧ TapeAt T.C_Tape H' x rl tl rs ts ∧ H' tk = some (.lst vl) ∧ Paired (TupV H') vl ts ∧ OkT ts ∧ H' D = some (.lst (rs.map V.int)) ∧ H' L = some (.lst ((rs ++ [1]).map V.int)) ∧ Pool H' p c b ∧ ts.length = i)
    ⟨[], [], _, _, _, rfl, (hT4.same sk).but b6 hpp r1 r2, b6 _ _ k1 upd_same, .nil, fun t m => (by cases m), b6 _ _ nD (sk _ _ e4), b6 _ _ nL (sk _ _ l4), P6, rfl⟩ ?_ ?_
  · rintro i σ' H' hi ⟨ts, vl, y5, y6, y7, rfl, hT7, e7, hp7, ok, d7, l7, P7, rfl⟩
    refine ⟨_, rfl, _, rfl, x, rl, tl, tk, vl, rs, ts, rfl, hT7, e7, hp7, ok, by omega, fun H8 s8 => ⟨_, rfl, iteF ?_⟩⟩
    obtain ⟨ysq, hpq⟩ := (P7.same s8).at
    refine ⟨_, rfl, p, c, 9, b, rfl, by decide, by decide, P7.same s8, fun cc H9 c0 c1 b9 P9 => ⟨_, _, rfl, rfl, ?_⟩⟩
    have hT9 := (hT7.same s8).but b9 hpq r1 r2
    have e9 := b9 _ _ k1 (s8 _ _ e7)
    have d9 := b9 _ _ nD (s8 _ _ d7)
    have l9 := b9 _ _ nL (s8 _ _ l7)
    have hp9 := Paired.mono (fun _ _ h => h.keep ((keepT_of s8).trans (b9.keepT hpq))) hp7
    have ik : (0 : Int) + (ts.length : Int) = (ts.length : Int) := Int.zero_add _
    refine ⟨fun σ' H' => σ' = [some (.ref p), some (.ref D), some (.ref L), some (.ref x), some (.ref tk), some (.int (0 + (ts.length : Int))), some (.int (1 + cc)), some (.int (takeK rs ts.length (1 + cc)))] ∧ H' = H9, ?_, ?_⟩
    · refine ⟨_, rfl, _, rfl, D, _, rfl, .inl (SqL.of d9), _, _, rfl, rfl, _, rfl, ite2 (fun y => ?_) (fun y => ?_)⟩
      · have y' : (0 : Int) + (ts.length : Int) < (((rs.map V.int).length : Nat) : Int) := of_decide_eq_true y
        rw [List.length_map] at y'
        have hlt : ts.length < rs.length := by omega
        have eg : rs[ts.length]? = some (rs[ts.length]) := List.getElem?_eq_getElem hlt
        have ek : takeK rs ts.length (1 + cc) = rs[ts.length] % (1 + cc) := by
          unfold takeK
          rw [eg]
        rw [ek]
        exact ⟨_, rfl, _, rfl, D, _, _, .int (rs[ts.length]), rfl, rfl, SqL.of d9, at_ofG (j := ts.length) ik (by rw [List.getElem?_map, eg]; rfl), .inl ⟨_, rfl, _, rfl, _, _, rfl, rfl, by omega, rfl, rfl⟩⟩
      · have y' : ¬ (0 : Int) + (ts.length : Int) < (((rs.map V.int).length : Nat) : Int) := fun z => y (decide_eq_true z)
        rw [List.length_map] at y'
        have ek : takeK rs ts.length (1 + cc) = 0 := by
          unfold takeK
          rw [List.getElem?_eq_none (by omega)]
        rw [ek]
        exact ⟨rfl, rfl⟩
    rintro σ1 H1 ⟨rfl, rfl⟩
    refine ⟨_, rfl, .inl ⟨rfl, _, SqL.of e9⟩, _, rfl, _, rfl, by show 2 ≤ sizeLine; decide, fun U hU => ?_⟩
    have sU := same_upd (o := .tup [V.int (takeK rs ts.length (1 + cc)), .int (1 + cc)]) hU
    have eU := sU _ _ e9
    have vle := Paired.length hp9
    refine ⟨tk, vl, _, rfl, rfl, eU, small1000 (by omega), ?_⟩
    have nU : U ≠ tk := (ne_of_none e9 hU).symm
    have hTa := (hT9.same sU).but (but_upd (o := .lst (vl ++ [.ref U]))) eU kr kt
    have Pa := (P9.same sU).upd k1.symm.symm k2 (.lst (vl ++ [.ref U]))
    have kA : KeepT H1 (upd (upd H1 U (.tup [V.int (takeK rs ts.length (1 + cc)), .int (1 + cc)])) tk (.lst (vl ++ [.ref U]))) := (keepT_of sU).trans (keepT_lst eU)
    have hpa := paired_snoc (Paired.mono (fun _ _ h => h.keep kA) hp9) (x := V.ref U) (y := (takeK rs ts.length (1 + cc), 1 + cc)) ⟨U, rfl, by rw [upd_ne nU]; exact upd_same⟩
    have da : (upd (upd H1 U (.tup [V.int (takeK rs ts.length (1 + cc)), .int (1 + cc)])) tk (.lst (vl ++ [.ref U]))) D = some (.lst (rs.map V.int)) := by
      rw [upd_ne kD]
      exact sU _ _ d9
    have la : (upd (upd H1 U (.tup [V.int (takeK rs ts.length (1 + cc)), .int (1 + cc)])) tk (.lst (vl ++ [.ref U]))) L = some (.lst ((rs ++ [1]).map V.int)) := by
      rw [upd_ne kL]
      exact sU _ _ l9
    have ea := upd_same (H := upd H1 U (.tup [V.int (takeK rs ts.length (1 + cc)), .int (1 + cc)])) (a := tk) (o := .lst (vl ++ [.ref U]))
    revert hTa Pa kA hpa da la ea
    generalize upd (upd H1 U (.tup [V.int (takeK rs ts.length (1 + cc)), .int (1 + cc)])) tk (.lst (vl ++ [.ref U])) = HB
    intro hTa Pa kA hpa da la ea
    obtain ⟨⟨dxa, hxa⟩, hra, vsa, hta, hppa⟩ := id hTa
    have nt : (tpf rl tl).lookup ("take" : Str) = none := tpf_no _ _ (by decide +kernel) (by decide +kernel)
    refine ⟨_, rfl, x, dxa, _, rfl, hxa, nt, _, rfl, x, rl, tl, 1 + cc, rs, ts, rfl, hTa, nrt, by omega, by omega, fun HC kC hTC => ?_⟩
    refine ⟨_, rfl, _, _, .int (takeK rs ts.length (1 + cc)), rfl, .int _, .int _, by simp [PyData.depth], by simp [wide], true, rfl, iteF ?_⟩
    have kTC : KeepT HB HC := fun z xs e => kC z _ (fun w => by rw [w, hta] at e; cases e) e
    refine ⟨_, vl ++ [.ref U], _, _, _, rfl, hTC, kC _ _ kt.symm ea, Paired.mono (fun _ _ h => h.keep kTC) hpa, fun t m => ?_, kC _ _ dr.2 da, kC _ _ lr.2 la, Pa.butl kC r2 r2c, by rw [List.length_append]; rfl⟩
    rcases List.mem_append.mp m with m | m
    · exact ok t m
    · rw [List.mem_singleton.mp m]
      exact ⟨by show 0 < 1 + cc; omega, by show 1 + cc < 16; omega⟩
  · rintro σ' H' ⟨ts, vl, y5, y6, y7, rfl, hT7, e7, hp7, ok, d7, l7, P7, el7⟩
    refine ⟨_, rfl, _, rfl, x, rl, tl, tk, vl, rs, ts, rfl, hT7, e7, hp7, ok, by omega, fun H8 s8 => ⟨true, rfl, iteT ?_⟩⟩
    refine ⟨_, rfl, _, rfl, by show 1 ≤ sizeLine; decide, fun W hW => ?_⟩
    have sW := same_upd (o := .lst [V.int 1]) hW
    refine ⟨D, W, _, _, rfl, rfl, sW _ _ (s8 _ _ d7), upd_same, by rw [List.length_map]; exact small_le (by show _ + 1 ≤ 1000; omega), fun Z hZ => ?_⟩
    have sZ := same_upd (o := .lst (rs.map V.int ++ [V.int 1])) hZ
    refine ⟨.list ((rs ++ [1]).map PyData.int), .list ((rs ++ [1]).map PyData.int), .lst (SqL.of (sZ _ _ (sW _ _ (s8 _ _ l7)))) (dp_ints (rs ++ [1])), .lst (SqL.of (xs := (rs ++ [1]).map V.int) (by rw [upd_same, List.map_append]; rfl)) (dp_ints (rs ++ [1])), shaped_ints _, shaped_ints _, ?_⟩
    rw [eqv_ints]
    exact q _ (((P7.same s8).same sW).same sZ)
/-! ### law -/
def wt : List Int → Int
  | [] => 1
  | c :: t => c * wt t
theorem wt_pos : ∀ {cs : List Int}, (∀ c ∈ cs, 0 < c) → 0 < wt cs
  | [], _ => by decide
  | c :: t, h => Int.mul_pos (h c List.mem_cons_self) (wt_pos fun x m => h x (List.mem_cons_of_mem _ m))
theorem wt_snoc : ∀ (cs : List Int) (c : Int), wt (cs ++ [c]) = wt cs * c
  | [], c => by
    show c * 1 = 1 * c
    omega
  | d :: t, c => by
    show d * wt (t ++ [c]) = d * wt t * c
    rw [wt_snoc t c, Int.mul_assoc]
def zd : List Int → Int → List (Int × Int)
  | [], _ => []
  | c :: t, k => ((k / wt t) % c, c) :: zd t k
theorem zd_get : ∀ (cs : List Int) (k : Int) (i : Nat), (zd cs k)[i]? = (cs[i]?).map fun c => ((k / wt (cs.drop (i + 1))) % c, c)
  | [], k, i => by simp [zd]
  | c :: t, k, 0 => rfl
  | c :: t, k, i + 1 => by
    show (zd t k)[i]? = _
    rw [zd_get t k i]
    rfl
theorem zd_len (cs : List Int) (k : Int) : (zd cs k).length = cs.length := by
  induction cs with
  | nil => rfl
  | cons c t ih =>
    show (zd t k).length + 1 = t.length + 1
    rw [ih]
theorem mod_dig : ∀ {t : List Int} {i : Nat} {c : Int} (x : Int), (∀ c ∈ t, 0 < c) → t[i]? = some c → (x / wt (t.drop (i + 1))) % c = ((x % wt t) / wt (t.drop (i + 1))) % c
  | [], i, c, x, _, h => by simp at h
  | d :: t, 0, c, x, hp, h => by
    cases h
    show (x / wt t) % d = ((x % (d * wt t)) / wt t) % d
    have p0 := wt_pos (cs := t) fun y m => hp y (List.mem_cons_of_mem _ m)
    have e := Int.mul_ediv_add_emod x (d * wt t)
    generalize hz : x % (d * wt t) = z at e ⊢
    generalize x / (d * wt t) = y at e
    have e2 : x = z + wt t * (d * y) := by
      rw [← e]
      grind
    rw [e2, Int.add_mul_ediv_left _ _ (by omega), Int.add_mul_emod_self_left]
  | d :: t, i + 1, c, x, hp, h => by
    have hp' : ∀ c ∈ t, 0 < c := fun y m => hp y (List.mem_cons_of_mem _ m)
    have h' : t[i]? = some c := by rw [List.getElem?_cons_succ] at h; exact h
    show (x / wt (t.drop (i + 1))) % c = ((x % (d * wt t)) / wt (t.drop (i + 1))) % c
    rw [mod_dig x hp' h', mod_dig (x % (d * wt t)) hp' h', Int.emod_emod_of_dvd _ (Int.dvd_mul_left d (wt t))]
theorem zd_mod {t : List Int} (k : Int) (hp : ∀ c ∈ t, 0 < c) : zd t k = zd t (k % wt t) := by
  refine List.ext_getElem? fun i => ?_
  rw [zd_get, zd_get]
  cases h : t[i]? with
  | none => rfl
  | some c =>
    exact congrArg (fun z => some (z, c)) (mod_dig k hp h)
def Pad (rs cs : List Int) (k : Int) : Prop := ∀ (i : Nat) c, cs[i]? = some c → takeK rs i c = (k / wt (cs.drop (i + 1))) % c
theorem takeK_cons (q : Int) (r : List Int) (i : Nat) (c : Int) : takeK (q :: r) (i + 1) c = takeK r i c := by
  unfold takeK
  rw [List.getElem?_cons_succ]
theorem next_way : ∀ {cs : List Int} {k : Int}, (∀ c ∈ cs, 0 < c) → 0 ≤ k → k < wt cs → (fol (zd cs k) = none ↔ k = wt cs - 1) ∧ ∀ r, fol (zd cs k) = some r → Pad r cs (k + 1)
  | [], k, _, h0, h1 => by
    have h1' : k < 1 := h1
    refine ⟨⟨fun _ => ?_, fun _ => rfl⟩, fun r h => (by cases h)⟩
    show k = 1 - 1
    omega
  | c :: t, k, hp, h0, h1 => by
    have hp' : ∀ c ∈ t, 0 < c := fun y m => hp y (List.mem_cons_of_mem _ m)
    have c0 : 0 < c := hp c List.mem_cons_self
    have P0 := wt_pos hp'
    have h1' : k < c * wt t := h1
    have e := Int.mul_ediv_add_emod k (wt t)
    have m0 := Int.emod_nonneg k (show wt t ≠ 0 by omega)
    have m1 := Int.emod_lt_of_pos k P0
    have q0 : 0 ≤ k / wt t := Int.ediv_nonneg h0 (by omega)
    have q1 : k / wt t < c := Int.ediv_lt_of_lt_mul P0 h1'
    have dg : (k / wt t) % c = k / wt t := Int.emod_eq_of_lt q0 q1
    obtain ⟨ih1, ih2⟩ := next_way (cs := t) (k := k % wt t) hp' m0 m1
    have ez : zd (c :: t) k = (k / wt t, c) :: zd t (k % wt t) := by
      show ((k / wt t) % c, c) :: zd t k = _
      rw [dg, zd_mod k hp']
    rw [ez]
    have tail : ∀ (x : Int) (i : Nat) (c' : Int), t[i]? = some c' → ((c :: t)[i + 1]? = some c' ∧ ((x / wt ((c :: t).drop (i + 2))) % c' = ((x % wt t) / wt (t.drop (i + 1))) % c')) := fun x i c' h => ⟨by rw [List.getElem?_cons_succ]; exact h, mod_dig x hp' h⟩
    show (_ ↔ k = c * wt t - 1) ∧ _
    revert ih1 ih2 e m0 m1 q0 q1
    generalize hq : k / wt t = q
    generalize hm : k % wt t = m
    generalize hP : wt t = P at *
    intro e m0 m1 q0 q1 ih1 ih2
    have cq : (q + 1) * P ≤ c * P := Int.mul_le_mul_of_nonneg_right (by omega) (by omega)
    have eq1 : (q + 1) * P = P * q + P := by grind
    cases hf : fol (zd t m) with
    | some r =>
      have mne : m ≠ P - 1 := fun z => by
        rw [ih1.mpr z] at hf
        cases hf
      rw [fol_some hf]
      refine ⟨⟨fun z => (by cases z), fun z => (by omega)⟩, fun r' h => ?_⟩
      cases h
      have pad := ih2 r hf
      intro i c' h
      cases i with
      | zero =>
        cases h
        show q % c = ((k + 1) / wt t) % c
        rw [hP]
        have : (k + 1) / P = q := by
          rw [show k + 1 = (m + 1) + P * q by omega, Int.add_mul_ediv_left _ _ (by omega), Int.ediv_eq_zero_of_lt (by omega) (by omega)]
          omega
        rw [this]
      | succ i =>
        rw [List.getElem?_cons_succ] at h
        rw [takeK_cons, pad i c' h]
        have := (tail (k + 1) i c' h).2
        have em : (k + 1) % P = m + 1 := by
          rw [show k + 1 = (m + 1) + P * q by omega, Int.add_mul_emod_self_left]
          exact Int.emod_eq_of_lt (by omega) (by omega)
        rw [em] at this
        exact this.symm
    | none =>
      have mP := ih1.mp hf
      rw [fol_none hf]
      by_cases y : q + 1 < c
      · rw [if_pos y]
        have cq2 : (q + 1 + 1) * P ≤ c * P := Int.mul_le_mul_of_nonneg_right (by omega) (by omega)
        have eq2 : (q + 1 + 1) * P = P * q + P + P := by grind
        refine ⟨⟨fun z => (by cases z), fun z => (by omega)⟩, fun r' h => ?_⟩
        cases h
        have ek : k + 1 = 0 + P * (q + 1) := by grind
        intro i c' h
        cases i with
        | zero =>
          cases h
          show (q + 1) % c = ((k + 1) / wt t) % c
          rw [hP, ek, Int.add_mul_ediv_left _ _ (by omega)]
          simp
        | succ i =>
          rw [List.getElem?_cons_succ] at h
          rw [takeK_cons]
          have := (tail (k + 1) i c' h).2
          have em : (k + 1) % P = 0 := by
            rw [ek, Int.add_mul_emod_self_left]
            simp
          rw [em] at this
          refine Eq.trans ?_ this.symm
          unfold takeK
          simp
      · rw [if_neg y]
        refine ⟨⟨fun _ => ?_, fun _ => rfl⟩, fun r' h => (by cases h)⟩
        have : q + 1 = c := by omega
        rw [this] at eq1
        omega
theorem fold_div : ∀ (l : List Int) (x : Int), (∀ c ∈ l, 0 < c) → l.foldl (fun p c => p / c) x = x / wt l
  | [], x, _ => by
    show x = x / 1
    rw [Int.ediv_one]
  | c :: t, x, h => by
    show t.foldl (fun p c => p / c) (x / c) = x / (c * wt t)
    have c0 := h c List.mem_cons_self
    rw [fold_div t _ fun y m => h y (List.mem_cons_of_mem _ m), Int.ediv_ediv_of_nonneg (by omega)]
theorem pad_nil (cs : List Int) : Pad [] cs 0 := fun i c _ => by
  unfold takeK
  simp
def sp_law (T : Txt K mg) : Sp := spLaw K

theorem ok_law (T : Txt K mg) : FnOk P w K mg base CX0 12 T.a_law T.d_law ["script"] (sp_law T) := by
  refine T.F_law.ok sc_law (fun vs H Q E h => ?_) (fun cdv A outer s H vs Q E hr h => ?_)
  · obtain ⟨a, ns, rfl, _⟩ := h
    rfl
  obtain ⟨a, ns0, rfl, hS, h63, q⟩ := h
  refine ⟨_, (pss_cons (ps_set (i := 1) sc_law.nd rfl (by first | exact Or.inl rfl | exact Or.inr rfl) (pe_call (ok_law_pool T) (hr.mono (by decide)) (by rfl) T.m_law_pool T.F_law_pool.kp T.b_law_pool .nil pass0 (pa_cons (pv 0) (pa_cons pe_int pa_nil))))
      (pss_cons (ps_if (pt_not (pt_truth (pe_call (ok_law_one T) (hr.mono (by decide)) (by rfl) T.m_law_one T.F_law_one.kp T.b_law_one .nil pass0 (pa_cons (pv 1) pa_nil)) (fun _ => rfl))) (pss_one (ps_ret pe_bl)) pss_nil)
      (pss_cons (ps_set (i := 2) sc_law.nd rfl (by first | exact Or.inl rfl | exact Or.inr rfl) (pe_lst pa_nil))
      (pss_cons (ps_set (i := 3) sc_law.nd rfl (by first | exact Or.inl rfl | exact Or.inr rfl) pe_int)
      (pss_cons (ps_for PassesOwn.never rfl (pi_range1 (by rfl) T.z_range (pa_cons (pe_call (ok_law_draw T) (hr.mono (by decide)) (by rfl) T.m_law_draw T.F_law_draw.kp T.b_law_draw .nil pass0 (pa_cons (pv 1) (pa_cons pe_int pa_nil))) pa_nil)) (pg_name (i := 4) sc_law.nd rfl (by first | exact Or.inl rfl | exact Or.inr rfl)) (pss_cons (ps_set (i := 5) sc_law.nd rfl (by first | exact Or.inl rfl | exact Or.inr rfl) (pe_op op_add pe_int (pe_call (ok_law_draw T) (hr.mono (by decide)) (by rfl) T.m_law_draw T.F_law_draw.kp T.b_law_draw .nil pass0 (pa_cons (pv 1) (pa_cons pe_int pa_nil)))))
      (pss_one (ps_if (pt_cmpR op_le (pe_op op_mul (pv 3) (pv 5)) pe_int (nomark _)) (pss_cons (ps_expr (pe_bm PySem.F.plainAttrs_list PySem.F.slot_list_append PySem.F.type_list_append mt_append (pv 2) (pa_cons (pv 5) pa_nil)))
      (pss_one (ps_set (i := 3) sc_law.nd rfl (by first | exact Or.inl rfl | exact Or.inr rfl) (pe_op op_mul (pv 3) (pv 5))))) pss_nil))))
      (pss_cons (ps_set (i := 6) sc_law.nd rfl (by first | exact Or.inl rfl | exact Or.inr rfl) (pe_lst pa_nil))
      (pss_cons (ps_for PassesOwn.never rfl (pi_range1 (by rfl) T.z_range (pa_cons (pv 3) pa_nil)) (pg_name (i := 4) sc_law.nd rfl (by first | exact Or.inl rfl | exact Or.inr rfl)) (pss_cons (ps_set (i := 7) sc_law.nd rfl (by first | exact Or.inl rfl | exact Or.inr rfl) (pe_make T.mk_Tape (ok_Tape_init T) (hr.mono (by decide)) (by rfl) T.m_Tape T.b_Tape_init .nil pass0 (pa_cons (pv 6) pa_nil)))
      (pss_cons (ps_for PassesOwn.never rfl (pi_range1 (by rfl) T.z_range (pa_cons (pe_callB call_len_seq (by rfl) T.z_len (by first | exact PySem.boot_len | decide +kernel) (pa_cons (pv 2) pa_nil)) pa_nil)) (pg_name (i := 8) sc_law.nd rfl (by first | exact Or.inl rfl | exact Or.inr rfl)) (pss_cons (ps_set (i := 9) sc_law.nd rfl (by first | exact Or.inl rfl | exact Or.inr rfl) (pv 4))
      (pss_cons (ps_for PassesOwn.never rfl (pi_list (pe_slice sl_list (pv 2) (po_some (pe_op op_add (pv 8) pe_int)) po_none)) (pg_name (i := 5) sc_law.nd rfl (by first | exact Or.inl rfl | exact Or.inr rfl)) (pss_one (ps_set (i := 9) sc_law.nd rfl (by first | exact Or.inl rfl | exact Or.inr rfl) (pe_op op_fdiv (pv 9) (pv 5)))))
      (pss_one (ps_if (pt_not (pt_truth (pe_call (ok_law_same T 8) (hr.mono (by decide)) (by rfl) T.m_law_same T.F_law_same.kp T.b_law_same .nil pass0 (pa_cons (pe_meth (pv 7) T.cl_Tape T.me_Tape_take (ok_Tape_take T) (hr.mono (by decide)) T.b_Tape_take .nil pass0 (pa_cons (pe_ix ix_list (pv 2) (pv 8) (fun _ _ => rfl)) pa_nil)) (pa_cons (pe_op op_mod (pe_callTy call_int1 (by rfl) T.z_int (by first | exact PySem.boot_int | decide +kernel) (pa_cons (pv 9) pa_nil)) (pe_ix ix_list (pv 2) (pv 8) (fun _ _ => rfl))) pa_nil))) (fun _ => rfl))) (pss_one (ps_ret pe_bl)) pss_nil)))))
      (pss_cons (ps_set (i := 6) sc_law.nd rfl (by first | exact Or.inl rfl | exact Or.inr rfl) (pe_meth0 (pv 7) T.cl_Tape T.me_Tape_following (ok_Tape_following T) (hr.mono (by decide)) T.b_Tape_following .nil pass0))
      (pss_one (ps_if (pt_cmpR op_ne (pe_cmpR op_isN (pv 6) pe_non (nomark _)) (pe_cmpR op_eq (pv 4) (pe_op op_sub (pv 3) pe_int) (nomark _)) (nomark _)) (pss_one (ps_ret pe_bl)) pss_nil))))))
      (pss_one (ps_ret pe_bl))))))))), ?_⟩
  refine ⟨_, rfl, a, ns0, 0, rfl, hS, fun p c H1 s1 np nc P1 => ?_⟩
  refine ⟨_, rfl, p, c, 0, rfl, P1, fun H2 P2 => ⟨_, rfl, iteF ?_⟩⟩
  refine ⟨by show 0 ≤ sizeLine; decide, fun C hC => ?_⟩
  have nC := P2.ne hC
  have nC2 := P2.ne2 hC
  refine ⟨_, rfl, p, c, 5, 0, rfl, by decide, by decide, P2.upd nC nC2 _, fun m H3 m0 m1 b3 P3 => ⟨m, rfl, by omega, by omega, for_range (fun i σ' H' => ∃ (cs : List Int) (y4 y5 : Option V), σ' = [some (.ref a), some (.ref p), some (.ref C), some (.int (wt cs)), y4, y5, none, none, none, none] ∧ H' C = some (.lst (cs.map V.int)) ∧ Pool H' p c 0 ∧ (∀ d ∈ cs, 0 < d ∧ d < 16) ∧ wt cs ≤ 120 ∧ cs.length ≤ i)
    ⟨[], none, none, rfl, b3 _ _ nC upd_same, P3, (fun d m => by cases m), by decide, Nat.le_refl 0⟩ ?_ ?_⟩⟩
  · rintro i σ' H' hi ⟨cs, y4, y5, rfl, eC, P4, hc, hw, hl⟩
    have w0 := wt_pos (cs := cs) fun d m => (hc d m).1
    refine ⟨_, rfl, p, c, 6, 0, rfl, by decide, by decide, P4, fun d H5 d0 d1 b5 P5 => ⟨_, _, rfl, rfl, ?_⟩⟩
    have e5 := b5 _ _ nC eC
    refine ⟨_, rfl, _, rfl, _, _, rfl, rfl, .inl ⟨by omega, by omega⟩, _, _, rfl, rfl, _, rfl, ite2 (fun y => ?_) (fun _ => ⟨cs, _, _, rfl, e5, P5, hc, hw, by omega⟩)⟩
    have y' : wt cs * (1 + d) ≤ 120 := of_decide_eq_true y
    refine ⟨_, rfl, .inl ⟨rfl, _, SqL.of e5⟩, _, rfl, C, _, _, rfl, rfl, e5, by rw [List.length_map]; exact small1000 (by omega), ?_⟩
    refine ⟨_, rfl, _, rfl, _, _, rfl, rfl, .inl ⟨by omega, by omega⟩, ⟨cs ++ [1 + d], _, _, by rw [wt_snoc]; rfl, ?_, P5.upd nC nC2 _, fun x mx => ?_, by rw [wt_snoc]; exact y', ?_⟩⟩
    · rw [upd_same, List.map_append]
      rfl
    · rcases List.mem_append.mp mx with mx | mx
      · exact hc x mx
      · rw [List.mem_singleton.mp mx]
        omega
    · rw [List.length_append]
      show cs.length + 1 ≤ i + 1
      omega
  rintro σ4 H4 ⟨cs, y4, y5, rfl, eC, P4, hc, hw, hl⟩
  have hc' : ∀ d ∈ cs, 0 < d := fun d m => (hc d m).1
  have w0 := wt_pos hc'
  have cl : cs.length ≤ 5 := by omega
  refine ⟨by show 0 ≤ sizeLine; decide, fun R hR => ?_⟩
  refine ⟨_, rfl, wt cs, rfl, by omega, by omega, for_range (fun i σ' H' => ∃ (v : V) (y4 y5 y7 y8 y9 : Option V), σ' = [some (.ref a), some (.ref p), some (.ref C), some (.int (wt cs)), y4, y5, some v, y7, y8, y9] ∧ H' C = some (.lst (cs.map V.int)) ∧ ((i : Int) < wt cs → ∃ r rs, v = .ref r ∧ H' r = some (.lst (rs.map V.int)) ∧ Pad rs cs i))
    ⟨_, _, _, _, _, _, rfl, same_upd hR _ _ eC, fun _ => ⟨R, [], rfl, upd_same, pad_nil cs⟩⟩ ?_ ?_⟩
  · rintro i σ' H' hi ⟨v, y4, y5, y7, y8, y9, rfl, eC, hv⟩
    have ilt : (i : Int) < wt cs := by omega
    obtain ⟨r, rs, rfl, er, pad⟩ := hv ilt
    have ik : (0 : Int) + (i : Int) = (i : Int) := Int.zero_add _
    rw [ik]
    refine ⟨_, rfl, make_tape T (SqL.of er) fun x rl tl H7 s7 fx fr ft nrt hT => ?_⟩
    have eC7 := s7 _ _ eC
    have nCt : C ≠ tl := ne_of_none eC ft
    refine ⟨_, rfl, C, _, rfl, .inl (SqL.of eC7), _, rfl, by rw [List.length_map]; omega, by rw [List.length_map]; omega, for_range (fun j σ' H' => ∃ (y5 y8 y9 : Option V), σ' = [some (.ref a), some (.ref p), some (.ref C), some (.int (wt cs)), some (.int (i : Int)), y5, some (.ref r), some (.ref x), y8, y9] ∧ H' C = some (.lst (cs.map V.int)) ∧ TapeAt T.C_Tape H' x rl tl rs ((zd cs i).take j))
      ⟨_, _, _, rfl, eC7, by rw [List.take_zero]; exact hT⟩ ?_ ?_⟩
    · rintro j σ' H' hj ⟨y5, y8, y9, rfl, eC8, hT8⟩
      have hj2 : j < cs.length := by
        rw [List.length_map] at hj
        omega
      obtain ⟨d, hd⟩ : ∃ d, cs[j]? = some d := ⟨_, List.getElem?_eq_getElem hj2⟩
      obtain ⟨d0, d1⟩ := hc d (List.mem_of_getElem? hd)
      have jk : (0 : Int) + (j : Int) = (j : Int) := Int.zero_add _
      rw [jk]
      have ecut : cutV (cs.map V.int) (some ((j : Int) + 1)) none = (cs.drop (j + 1)).map V.int := by
        rw [cut_from' _ _ (by omega), List.map_drop]
        congr 1
      refine ⟨_, rfl, _, rfl, _, rfl, _, _, rfl, rfl, _, rfl, C, _, rfl, SqL.of eC8, fun W hW => ?_⟩
      rw [ecut]
      have sW := same_upd (o := .lst ((cs.drop (j + 1)).map V.int)) hW
      refine ⟨W, rfl, ⟨_, SqL.of upd_same⟩, for_list (K := K) (a := W) (xs := (cs.drop (j + 1)).map V.int) (fun l σ' H2 => ∃ (y5 : Option V), σ' = [some (.ref a), some (.ref p), some (.ref C), some (.int (wt cs)), some (.int (i : Int)), y5, some (.ref r), some (.ref x), some (.int (j : Int)), some (.int (((cs.drop (j + 1)).take l).foldl (fun p c => p / c) (i : Int)))] ∧ H2 = upd H' W (.lst ((cs.drop (j + 1)).map V.int))) ⟨_, rfl, rfl⟩ ?_ ?_ ?_⟩
      · rintro l σ2 H2 _ ⟨y5, rfl, rfl⟩
        exact SqL.of upd_same
      · rintro l w σ2 H2 hl2 ⟨y5, rfl, rfl⟩
        obtain ⟨e, he, rfl⟩ := int_of_map hl2
        obtain ⟨e0, e1⟩ := hc e (List.mem_of_mem_drop (List.mem_of_getElem? he))
        refine ⟨_, rfl, _, rfl, _, _, rfl, rfl, ⟨e0, by omega⟩, ⟨some (.int e), ?_, rfl⟩⟩
        rw [List.take_add_one, he, Option.toList_some, List.foldl_append]
        rfl
      · rintro σ2 H2 ⟨y5, rfl, rfl⟩
        rw [List.length_map, List.take_of_length_le (Nat.le_refl _), fold_div _ _ fun y m => hc' y (List.mem_of_mem_drop m)]
        have hT9 := hT8.same sW
        have eC9 := sW _ _ eC8
        obtain ⟨⟨dx, hx⟩, _⟩ := id hT9
        have nt : (tpf rl tl).lookup ("take" : Str) = none := tpf_no _ _ (by decide +kernel) (by decide +kernel)
        have hdv : (cs.map V.int)[j]? = some (.int d) := by rw [List.getElem?_map, hd]; rfl
        have tlen : ((zd cs i).take j).length = j := by
          rw [List.length_take, zd_len]
          omega
        refine ⟨_, rfl, x, dx, _, rfl, hx, nt, _, rfl, _, rfl, C, _, _, .int d, rfl, rfl, SqL.of eC9, at_ofG (j := j) rfl hdv, x, rl, tl, d, rs, (zd cs i).take j, rfl, hT9, nrt, d0, by omega, fun H9 k9 hT10 => ?_⟩
        rw [tlen] at hT10 ⊢
        have pj := pad j d hd
        have eC10 := k9 _ _ nCt eC9
        refine ⟨_, rfl, .inl ⟨_, rfl, _, rfl, _, rfl, C, _, _, .int d, rfl, rfl, SqL.of eC10, at_ofG (j := j) rfl hdv, _, _, rfl, rfl, d0, ?_⟩⟩
        refine ⟨_, _, .int (takeK rs j d), rfl, .int _, by rw [pj]; exact .int _, by simp [PyData.depth], by simp [wide], true, rfl, iteF ?_⟩
        refine ⟨_, _, _, rfl, eC10, ?_⟩
        have eg : (zd cs i)[j]? = some (takeK rs j d, d) := by
          rw [zd_get, hd, pj]
          rfl
        rw [List.take_add_one, eg]
        exact hT10
    · rintro σ' H8 ⟨y5, y8, y9, rfl, eC8, hT8⟩
      rw [List.length_map, List.take_of_length_le (by rw [zd_len]; omega)] at hT8
      obtain ⟨⟨dx, hx⟩, _⟩ := id hT8
      have nf : (tpf rl tl).lookup ("following" : Str) = none := tpf_no _ _ (by decide +kernel) (by decide +kernel)
      refine ⟨_, rfl, x, dx, _, rfl, hx, nf, x, rl, tl, rs, zd cs i, rfl, hT8, by rw [zd_len]; omega, fun v H10 s10 F => ?_⟩
      obtain ⟨nw1, nw2⟩ := next_way hc' (Int.natCast_nonneg i) ilt
      have eqb : decide (v = V.non) = decide (V.int (i : Int) = V.int (wt cs - 1)) := by
        cases hf : fol (zd cs i) with
        | none =>
          rw [hf] at F
          have F' : v = .non := F
          rw [decide_eq_true F', decide_eq_true (congrArg V.int (nw1.mp hf))]
        | some r' =>
          rw [hf] at F
          obtain ⟨b', rfl, _⟩ := F
          rw [decide_eq_false (fun z => by cases z), decide_eq_false fun z => ?_]
          have := nw1.mpr (V.int.inj z)
          rw [hf] at this
          cases this
      refine ⟨_, rfl, rfl, _, rfl, _, rfl, _, _, rfl, rfl, rfl, rfl, _, rfl, ?_⟩
      rw [eqb, decide_eq_true rfl]
      refine iteF ?_
      refine ⟨v, _, _, _, _, _, rfl, s10 _ _ eC8, fun h => ?_⟩
      cases hf : fol (zd cs i) with
      | none =>
        have := nw1.mp hf
        exact absurd h (by omega)
      | some r' =>
        rw [hf] at F
        obtain ⟨b', rfl, hb'⟩ := F
        exact ⟨b', r', rfl, hb', nw2 r' hf⟩
  · rintro σ' H' _
    exact q _
end
/-! ### what the top has written -/
theorem all_mk {l : PySem.W.OpenLaw} {w : World} {K : PySem.W.Frag} {h : Heap} {mg : Str → Option Value} {fa : Addr} (X : K.In h) (G : h.Ns mainGlobals mg) (hfa : mg "law" = some (.ref fa))
    {C_Ratio : Addr}
    {C_Tape : Addr}
    {f1 : Addr} {od1 an1 : Option Addr} {sl1 : Array (Option Value)} {oc1 kV1 dc1 pm1 cd1 ct1 : Value}
    {Tt1 : Addr} {tc1 : Value} {td1 : Option Addr} {tn1 : Nat} {tl1 : Array (Option Value)} {tk1 : Tok}
    {f2 : Addr} {od2 an2 : Option Addr} {sl2 : Array (Option Value)} {oc2 kV2 dc2 pm2 cd2 ct2 : Value}
    {f3 : Addr} {od3 an3 : Option Addr} {sl3 : Array (Option Value)} {oc3 kV3 dc3 pm3 cd3 ct3 : Value}
    {f4 : Addr} {od4 an4 : Option Addr} {sl4 : Array (Option Value)} {oc4 kV4 dc4 pm4 cd4 ct4 : Value}
    {f5 : Addr} {od5 an5 : Option Addr} {sl5 : Array (Option Value)} {oc5 kV5 dc5 pm5 cd5 ct5 : Value}
    {f6 : Addr} {od6 an6 : Option Addr} {sl6 : Array (Option Value)} {oc6 kV6 dc6 pm6 cd6 ct6 : Value}
    {f7 : Addr} {od7 an7 : Option Addr} {sl7 : Array (Option Value)} {oc7 kV7 dc7 pm7 cd7 ct7 : Value}
    {f8 : Addr} {od8 an8 : Option Addr} {sl8 : Array (Option Value)} {oc8 kV8 dc8 pm8 cd8 ct8 : Value}
    {f9 : Addr} {od9 an9 : Option Addr} {sl9 : Array (Option Value)} {oc9 kV9 dc9 pm9 cd9 ct9 : Value}
    {f10 : Addr} {od10 an10 : Option Addr} {sl10 : Array (Option Value)} {oc10 kV10 dc10 pm10 cd10 ct10 : Value}
    {f11 : Addr} {od11 an11 : Option Addr} {sl11 : Array (Option Value)} {oc11 kV11 dc11 pm11 cd11 ct11 : Value}
    {f12 : Addr} {od12 an12 : Option Addr} {sl12 : Array (Option Value)} {oc12 kV12 dc12 pm12 cd12 ct12 : Value}
    {f13 : Addr} {od13 an13 : Option Addr} {sl13 : Array (Option Value)} {oc13 kV13 dc13 pm13 cd13 ct13 : Value}
    {f14 : Addr} {od14 an14 : Option Addr} {sl14 : Array (Option Value)} {oc14 kV14 dc14 pm14 cd14 ct14 : Value}
    {f15 : Addr} {od15 an15 : Option Addr} {sl15 : Array (Option Value)} {oc15 kV15 dc15 pm15 cd15 ct15 : Value}
    {f16 : Addr} {od16 an16 : Option Addr} {sl16 : Array (Option Value)} {oc16 kV16 dc16 pm16 cd16 ct16 : Value}
    (ac_Ratio : PySem.W.nsIn K mainGlobals "Ratio" = some (some (.ref C_Ratio)))
    (pg_Ratio : PySem.W.plainGet K C_Ratio Str.empty = true)
    (hd_Ratio : PySem.W.hasDictIn K C_Ratio = true)
    (po_Ratio : PySem.W.plainOver K C_Ratio = true)
    (sa_Ratio : PySem.W.findIn K (.ref C_Ratio) "__setattr__" = some (some (.builtin "object.__setattr__")))
    (mkc_Ratio : PySem.W.makesIn K C_Ratio = true)
    (kpc_Ratio : PySem.W.keepIn K (.ref C_Ratio) = true)
    (na_Ratio_num : PySem.W.findIn K (.ref C_Ratio) "num" = some none)
    (na_Ratio_den : PySem.W.findIn K (.ref C_Ratio) "den" = some none)
    (sf_Ratio : PySem.W.selfFirst K C_Ratio = true)
    (xa_Ratio : PySem.W.findIn K (.ref C_Ratio) "__class__" = some (some (.builtin "object.__class__")))
    (xn_Ratio : PySem.W.specialIn K (.builtin "object.__class__") "__get__" = some (some (.builtin "getset_descriptor.__get__")))
    (xt_Ratio : PySem.W.takesIn K (.builtin "object.__class__") = some true)
    (xm_Ratio : PySem.W.mroIn K C_Ratio (.type "object") = some true)
    (ac_Tape : PySem.W.nsIn K mainGlobals "Tape" = some (some (.ref C_Tape)))
    (pg_Tape : PySem.W.plainGet K C_Tape Str.empty = true)
    (hd_Tape : PySem.W.hasDictIn K C_Tape = true)
    (po_Tape : PySem.W.plainOver K C_Tape = true)
    (sa_Tape : PySem.W.findIn K (.ref C_Tape) "__setattr__" = some (some (.builtin "object.__setattr__")))
    (mkc_Tape : PySem.W.makesIn K C_Tape = true)
    (kpc_Tape : PySem.W.keepIn K (.ref C_Tape) = true)
    (na_Tape__results : PySem.W.findIn K (.ref C_Tape) "_results" = some none)
    (na_Tape_taken : PySem.W.findIn K (.ref C_Tape) "taken" = some none)
    (a1 : PySem.W.findIn K (.ref C_Ratio) "__init__" = some (some (.ref f1)))
    (i1 : PySem.W.isFn K (.ref f1) = true)
    (l1 : K.lookup f1 = some ⟨oc1, od1, .func (PySem.W.fnOf "__init__" "Ratio.__init__" (defArgs s_Ratio_init) (defBody s_Ratio_init) (defScope s_Ratio_init) (.ref Tt1) kV1 dc1 pm1 an1 cd1 ct1), sl1⟩)
    (c1 : PySem.W.codeIn K cd1 "Ratio.__init__" = true)
    (k1 : PySem.W.keepIn K (.ref f1) = true)
    (t1 : K.lookup Tt1 = some ⟨tc1, td1, .seq #[.int 1 tk1] tn1, tl1⟩)
    (a2 : PySem.W.findIn K (.ref C_Ratio) "__add__" = some (some (.ref f2)))
    (i2 : PySem.W.isFn K (.ref f2) = true)
    (l2 : K.lookup f2 = some ⟨oc2, od2, .func (PySem.W.fnOf "__add__" "Ratio.__add__" (defArgs s_Ratio_add) (defBody s_Ratio_add) (defScope s_Ratio_add) .none kV2 dc2 pm2 an2 cd2 ct2), sl2⟩)
    (c2 : PySem.W.codeIn K cd2 "Ratio.__add__" = true)
    (k2 : PySem.W.keepIn K (.ref f2) = true)
    (a3 : PySem.W.findIn K (.ref C_Tape) "__init__" = some (some (.ref f3)))
    (i3 : PySem.W.isFn K (.ref f3) = true)
    (l3 : K.lookup f3 = some ⟨oc3, od3, .func (PySem.W.fnOf "__init__" "Tape.__init__" (defArgs s_Tape_init) (defBody s_Tape_init) (defScope s_Tape_init) .none kV3 dc3 pm3 an3 cd3 ct3), sl3⟩)
    (c3 : PySem.W.codeIn K cd3 "Tape.__init__" = true)
    (k3 : PySem.W.keepIn K (.ref f3) = true)
    (a4 : PySem.W.findIn K (.ref C_Tape) "take" = some (some (.ref f4)))
    (i4 : PySem.W.isFn K (.ref f4) = true)
    (l4 : K.lookup f4 = some ⟨oc4, od4, .func (PySem.W.fnOf "take" "Tape.take" (defArgs s_Tape_take) (defBody s_Tape_take) (defScope s_Tape_take) .none kV4 dc4 pm4 an4 cd4 ct4), sl4⟩)
    (c4 : PySem.W.codeIn K cd4 "Tape.take" = true)
    (k4 : PySem.W.keepIn K (.ref f4) = true)
    (a5 : PySem.W.findIn K (.ref C_Tape) "chance" = some (some (.ref f5)))
    (i5 : PySem.W.isFn K (.ref f5) = true)
    (l5 : K.lookup f5 = some ⟨oc5, od5, .func (PySem.W.fnOf "chance" "Tape.chance" (defArgs s_Tape_chance) (defBody s_Tape_chance) (defScope s_Tape_chance) .none kV5 dc5 pm5 an5 cd5 ct5), sl5⟩)
    (c5 : PySem.W.codeIn K cd5 "Tape.chance" = true)
    (k5 : PySem.W.keepIn K (.ref f5) = true)
    (a6 : PySem.W.findIn K (.ref C_Tape) "following" = some (some (.ref f6)))
    (i6 : PySem.W.isFn K (.ref f6) = true)
    (l6 : K.lookup f6 = some ⟨oc6, od6, .func (PySem.W.fnOf "following" "Tape.following" (defArgs s_Tape_following) (defBody s_Tape_following) (defScope s_Tape_following) .none kV6 dc6 pm6 an6 cd6 ct6), sl6⟩)
    (c6 : PySem.W.codeIn K cd6 "Tape.following" = true)
    (k6 : PySem.W.keepIn K (.ref f6) = true)
    (a7 : PySem.W.nsIn K mainGlobals "_law_pool" = some (some (.ref f7)))
    (l7 : K.lookup f7 = some ⟨oc7, od7, .func (PySem.W.fnOf "_law_pool" "_law_pool" (defArgs s_law_pool) (defBody s_law_pool) (defScope s_law_pool) .none kV7 dc7 pm7 an7 cd7 ct7), sl7⟩)
    (c7 : PySem.W.codeIn K cd7 "_law_pool" = true)
    (k7 : PySem.W.keepIn K (.ref f7) = true)
    (a8 : PySem.W.nsIn K mainGlobals "_law_draw" = some (some (.ref f8)))
    (l8 : K.lookup f8 = some ⟨oc8, od8, .func (PySem.W.fnOf "_law_draw" "_law_draw" (defArgs s_law_draw) (defBody s_law_draw) (defScope s_law_draw) .none kV8 dc8 pm8 an8 cd8 ct8), sl8⟩)
    (c8 : PySem.W.codeIn K cd8 "_law_draw" = true)
    (k8 : PySem.W.keepIn K (.ref f8) = true)
    (a9 : PySem.W.nsIn K mainGlobals "_law_number" = some (some (.ref f9)))
    (l9 : K.lookup f9 = some ⟨oc9, od9, .func (PySem.W.fnOf "_law_number" "_law_number" (defArgs s_law_number) (defBody s_law_number) (defScope s_law_number) .none kV9 dc9 pm9 an9 cd9 ct9), sl9⟩)
    (c9 : PySem.W.codeIn K cd9 "_law_number" = true)
    (k9 : PySem.W.keepIn K (.ref f9) = true)
    (a10 : PySem.W.nsIn K mainGlobals "_law_same" = some (some (.ref f10)))
    (l10 : K.lookup f10 = some ⟨oc10, od10, .func (PySem.W.fnOf "_law_same" "_law_same" (defArgs s_law_same) (defBody s_law_same) (defScope s_law_same) .none kV10 dc10 pm10 an10 cd10 ct10), sl10⟩)
    (c10 : PySem.W.codeIn K cd10 "_law_same" = true)
    (k10 : PySem.W.keepIn K (.ref f10) = true)
    (a11 : PySem.W.nsIn K mainGlobals "_law_lowest" = some (some (.ref f11)))
    (l11 : K.lookup f11 = some ⟨oc11, od11, .func (PySem.W.fnOf "_law_lowest" "_law_lowest" (defArgs s_law_lowest) (defBody s_law_lowest) (defScope s_law_lowest) .none kV11 dc11 pm11 an11 cd11 ct11), sl11⟩)
    (c11 : PySem.W.codeIn K cd11 "_law_lowest" = true)
    (k11 : PySem.W.keepIn K (.ref f11) = true)
    (a12 : PySem.W.nsIn K mainGlobals "_law_is_ratio" = some (some (.ref f12)))
    (l12 : K.lookup f12 = some ⟨oc12, od12, .func (PySem.W.fnOf "_law_is_ratio" "_law_is_ratio" (defArgs s_law_is_ratio) (defBody s_law_is_ratio) (defScope s_law_is_ratio) .none kV12 dc12 pm12 an12 cd12 ct12), sl12⟩)
    (c12 : PySem.W.codeIn K cd12 "_law_is_ratio" = true)
    (k12 : PySem.W.keepIn K (.ref f12) = true)
    (a13 : PySem.W.nsIn K mainGlobals "_law_following" = some (some (.ref f13)))
    (l13 : K.lookup f13 = some ⟨oc13, od13, .func (PySem.W.fnOf "_law_following" "_law_following" (defArgs s_law_following) (defBody s_law_following) (defScope s_law_following) .none kV13 dc13 pm13 an13 cd13 ct13), sl13⟩)
    (c13 : PySem.W.codeIn K cd13 "_law_following" = true)
    (k13 : PySem.W.keepIn K (.ref f13) = true)
    (a14 : PySem.W.nsIn K mainGlobals "_law_told" = some (some (.ref f14)))
    (l14 : K.lookup f14 = some ⟨oc14, od14, .func (PySem.W.fnOf "_law_told" "_law_told" (defArgs s_law_told) (defBody s_law_told) (defScope s_law_told) .none kV14 dc14 pm14 an14 cd14 ct14), sl14⟩)
    (c14 : PySem.W.codeIn K cd14 "_law_told" = true)
    (k14 : PySem.W.keepIn K (.ref f14) = true)
    (a15 : PySem.W.nsIn K mainGlobals "_law_one" = some (some (.ref f15)))
    (l15 : K.lookup f15 = some ⟨oc15, od15, .func (PySem.W.fnOf "_law_one" "_law_one" (defArgs s_law_one) (defBody s_law_one) (defScope s_law_one) .none kV15 dc15 pm15 an15 cd15 ct15), sl15⟩)
    (c15 : PySem.W.codeIn K cd15 "_law_one" = true)
    (k15 : PySem.W.keepIn K (.ref f15) = true)
    (a16 : PySem.W.nsIn K mainGlobals "law" = some (some (.ref f16)))
    (l16 : K.lookup f16 = some ⟨oc16, od16, .func (PySem.W.fnOf "law" "law" (defArgs s_law) (defBody s_law) (defScope s_law) .none kV16 dc16 pm16 an16 cd16 ct16), sl16⟩)
    (c16 : PySem.W.codeIn K cd16 "law" = true)
    (k16 : PySem.W.keepIn K (.ref f16) = true)
    (g_gcd : PySem.W.nsIn K mainGlobals "gcd" = some (some (.builtin "math.gcd")))
    (z_abs : PySem.W.nsIn K mainGlobals "abs" = some none)
    (z_bool : PySem.W.nsIn K mainGlobals "bool" = some none)
    (z_int : PySem.W.nsIn K mainGlobals "int" = some none)
    (z_isinstance : PySem.W.nsIn K mainGlobals "isinstance" = some none)
    (z_len : PySem.W.nsIn K mainGlobals "len" = some none)
    (z_list : PySem.W.nsIn K mainGlobals "list" = some none)
    (z_range : PySem.W.nsIn K mainGlobals "range" = some none)
    (z_reversed : PySem.W.nsIn K mainGlobals "reversed" = some none)
    (z_str : PySem.W.nsIn K mainGlobals "str" = some none)
    (z_tuple : PySem.W.nsIn K mainGlobals "tuple" = some none) :
    ∃ fd : FuncData, (∀ (s : Shared) (v : Value), BindsTo s fd ⟨[v], []⟩ [("script", v)]) ∧ ∀ base : Heap, K.In base → base.Ns mainGlobals mg → FnOk l.prog w K mg base CX0 12 fa fd ["script"] (spLaw K) := by
  have e := hfa.symm.trans (PySem.W.mg_of X G a16)
  cases e
  have FD1 : FunD K "__init__" "Ratio.__init__" (defArgs s_Ratio_init) (defBody s_Ratio_init) (defScope s_Ratio_init) [.int 1] [] f1 _ := ⟨⟨_, _, _, _, _, _, _, _, _, _, rfl, l1, c1, .inr ⟨(by simp), _, _, _, _, rfl, t1, rfl, (.cons (by first | exact ⟨_, rfl⟩ | rfl) .nil)⟩, .inl rfl⟩, k1⟩
  obtain ⟨dz1, vz1, bz1⟩ := FD1.binds1 (ps := ["self", "num", "den"]) 3 1 (by simp) (by first | decide | rfl) (fun _ _ _ _ _ _ _ us its h1 h2 => match us, its, h1, h2 with | [_, _, _], [_], _, _ => ⟨_, rfl, rfl⟩)
  cases vz1
  obtain ⟨ds1, vd1, bd1⟩ := FD1.binds1 (ps := ["self", "num", "den"]) 2 0 (by simp) (by first | decide | rfl) (fun _ _ _ _ _ _ _ us its h1 h2 => match us, its, h1, h2 with | [_, _], [_], _, _ => ⟨_, rfl, rfl⟩)
  let T : Txt K mg := { C_Ratio := C_Ratio, m_Ratio := PySem.W.mg_of X G ac_Ratio, cl_Ratio := ⟨pg_Ratio, hd_Ratio, po_Ratio, sa_Ratio⟩, n_Ratio_num := na_Ratio_num, n_Ratio_den := na_Ratio_den, sf_Ratio := sf_Ratio, ic_Ratio := ⟨⟨pg_Ratio, hd_Ratio, po_Ratio, sa_Ratio⟩, xa_Ratio, xn_Ratio, xt_Ratio, xm_Ratio, (by unfold PySem.W.kitOne; simp)⟩, C_Tape := C_Tape, m_Tape := PySem.W.mg_of X G ac_Tape, cl_Tape := ⟨pg_Tape, hd_Tape, po_Tape, sa_Tape⟩, n_Tape__results := na_Tape__results, n_Tape_taken := na_Tape_taken, a_Ratio_init := f1, d_Ratio_init := _, F_Ratio_init := FD1, ds_Ratio_init := ds1, v_Ratio_init := vd1, bd_Ratio_init := bd1, b_Ratio_init := bz1, mk_Ratio := ⟨mkc_Ratio, a1, i1, kpc_Ratio⟩, a_Ratio_add := f2, d_Ratio_add := _, F_Ratio_add := fun_mk (st := s_Ratio_add) l2 c2 k2, b_Ratio_add := (fun_mk (st := s_Ratio_add) l2 c2 k2).binds (ps := ["self", "other"]) (fun _ _ _ _ _ _ us hl => match us, hl with | [_, _], _ => rfl), me_Ratio_add := ⟨a2, i2, k2⟩, a_Tape_init := f3, d_Tape_init := _, F_Tape_init := fun_mk (st := s_Tape_init) l3 c3 k3, b_Tape_init := (fun_mk (st := s_Tape_init) l3 c3 k3).binds (ps := ["self", "results"]) (fun _ _ _ _ _ _ us hl => match us, hl with | [_, _], _ => rfl), mk_Tape := ⟨mkc_Tape, a3, i3, kpc_Tape⟩, a_Tape_take := f4, d_Tape_take := _, F_Tape_take := fun_mk (st := s_Tape_take) l4 c4 k4, b_Tape_take := (fun_mk (st := s_Tape_take) l4 c4 k4).binds (ps := ["self", "count"]) (fun _ _ _ _ _ _ us hl => match us, hl with | [_, _], _ => rfl), me_Tape_take := ⟨a4, i4, k4⟩, a_Tape_chance := f5, d_Tape_chance := _, F_Tape_chance := fun_mk (st := s_Tape_chance) l5 c5 k5, b_Tape_chance := (fun_mk (st := s_Tape_chance) l5 c5 k5).binds (ps := ["self"]) (fun _ _ _ _ _ _ us hl => match us, hl with | [_], _ => rfl), me_Tape_chance := ⟨a5, i5, k5⟩, a_Tape_following := f6, d_Tape_following := _, F_Tape_following := fun_mk (st := s_Tape_following) l6 c6 k6, b_Tape_following := (fun_mk (st := s_Tape_following) l6 c6 k6).binds (ps := ["self"]) (fun _ _ _ _ _ _ us hl => match us, hl with | [_], _ => rfl), me_Tape_following := ⟨a6, i6, k6⟩, a_law_pool := f7, d_law_pool := _, F_law_pool := fun_mk (st := s_law_pool) l7 c7 k7, b_law_pool := (fun_mk (st := s_law_pool) l7 c7 k7).binds (ps := ["script", "budget"]) (fun _ _ _ _ _ _ us hl => match us, hl with | [_, _], _ => rfl), m_law_pool := PySem.W.mg_of X G a7, a_law_draw := f8, d_law_draw := _, F_law_draw := fun_mk (st := s_law_draw) l8 c8 k8, b_law_draw := (fun_mk (st := s_law_draw) l8 c8 k8).binds (ps := ["pool", "size"]) (fun _ _ _ _ _ _ us hl => match us, hl with | [_, _], _ => rfl), m_law_draw := PySem.W.mg_of X G a8, a_law_number := f9, d_law_number := _, F_law_number := fun_mk (st := s_law_number) l9 c9 k9, b_law_number := (fun_mk (st := s_law_number) l9 c9 k9).binds (ps := ["pool"]) (fun _ _ _ _ _ _ us hl => match us, hl with | [_], _ => rfl), m_law_number := PySem.W.mg_of X G a9, a_law_same := f10, d_law_same := _, F_law_same := fun_mk (st := s_law_same) l10 c10 k10, b_law_same := (fun_mk (st := s_law_same) l10 c10 k10).binds (ps := ["actual", "due"]) (fun _ _ _ _ _ _ us hl => match us, hl with | [_, _], _ => rfl), m_law_same := PySem.W.mg_of X G a10, a_law_lowest := f11, d_law_lowest := _, F_law_lowest := fun_mk (st := s_law_lowest) l11 c11 k11, b_law_lowest := (fun_mk (st := s_law_lowest) l11 c11 k11).binds (ps := ["num", "den"]) (fun _ _ _ _ _ _ us hl => match us, hl with | [_, _], _ => rfl), m_law_lowest := PySem.W.mg_of X G a11, a_law_is_ratio := f12, d_law_is_ratio := _, F_law_is_ratio := fun_mk (st := s_law_is_ratio) l12 c12 k12, b_law_is_ratio := (fun_mk (st := s_law_is_ratio) l12 c12 k12).binds (ps := ["actual", "num", "den"]) (fun _ _ _ _ _ _ us hl => match us, hl with | [_, _, _], _ => rfl), m_law_is_ratio := PySem.W.mg_of X G a12, a_law_following := f13, d_law_following := _, F_law_following := fun_mk (st := s_law_following) l13 c13 k13, b_law_following := (fun_mk (st := s_law_following) l13 c13 k13).binds (ps := ["taken"]) (fun _ _ _ _ _ _ us hl => match us, hl with | [_], _ => rfl), m_law_following := PySem.W.mg_of X G a13, a_law_told := f14, d_law_told := _, F_law_told := fun_mk (st := s_law_told) l14 c14 k14, b_law_told := (fun_mk (st := s_law_told) l14 c14 k14).binds (ps := ["tape", "taken"]) (fun _ _ _ _ _ _ us hl => match us, hl with | [_, _], _ => rfl), m_law_told := PySem.W.mg_of X G a14, a_law_one := f15, d_law_one := _, F_law_one := fun_mk (st := s_law_one) l15 c15 k15, b_law_one := (fun_mk (st := s_law_one) l15 c15 k15).binds (ps := ["pool"]) (fun _ _ _ _ _ _ us hl => match us, hl with | [_], _ => rfl), m_law_one := PySem.W.mg_of X G a15, a_law := fa, d_law := _, F_law := fun_mk (st := s_law) l16 c16 k16, b_law := (fun_mk (st := s_law) l16 c16 k16).binds (ps := ["script"]) (fun _ _ _ _ _ _ us hl => match us, hl with | [_], _ => rfl), m_law := PySem.W.mg_of X G a16, g_gcd := PySem.W.mg_of X G g_gcd, z_abs := PySem.W.mg_none_of X G z_abs, z_bool := PySem.W.mg_none_of X G z_bool, z_int := PySem.W.mg_none_of X G z_int, z_isinstance := PySem.W.mg_none_of X G z_isinstance, z_len := PySem.W.mg_none_of X G z_len, z_list := PySem.W.mg_none_of X G z_list, z_range := PySem.W.mg_none_of X G z_range, z_reversed := PySem.W.mg_none_of X G z_reversed, z_str := PySem.W.mg_none_of X G z_str, z_tuple := PySem.W.mg_none_of X G z_tuple }
  exact ⟨T.d_law, fun s v => .of_eq rfl, fun base _ _ => ok_law T⟩
end Own
open PySem PySem.W PyProof.Rows
set_option maxHeartbeats 0 in
theorem PySem.Challenge.cw_sureplay_k60_lots_that_were_given_holds : PySem.Challenge.rw_sureplay_k60_lots_that_were_given.Holds := by
  w_on; o_law; k_head; (case hw => w_witness2)
  k_fill
  refine L2.walk_of (l := PySem.Challenge.rw_sureplay_k60_lots_that_were_given) (n := 63) (k := 12) (x := "script") (CX := fun _ => L2.CX0) (sp := fun w => Own.spLaw _) rfl (by decide) rfl ⟨rfl, by decide, by decide⟩ (fun w h Y => PySem.W.kIn_of Y) ?F (fun _ _ a ns hl _ hS => ⟨a, ns, rfl, hS, hl, fun _ => rfl⟩) (fun _ _ _ _ _ h => h)
  case F =>
    intro w mg fa h KX G hmg
    refine' Own.all_mk KX G hmg ?ac_Ratio ?pg_Ratio ?hd_Ratio ?po_Ratio ?sa_Ratio ?mkc_Ratio ?kpc_Ratio ?na_Ratio_num ?na_Ratio_den ?sf_Ratio ?xa_Ratio ?xn_Ratio ?xt_Ratio ?xm_Ratio ?ac_Tape ?pg_Tape ?hd_Tape ?po_Tape ?sa_Tape ?mkc_Tape ?kpc_Tape ?na_Tape__results ?na_Tape_taken ?a1 ?i1 ?l1 ?c1 ?k1 ?t1 ?a2 ?i2 ?l2 ?c2 ?k2 ?a3 ?i3 ?l3 ?c3 ?k3 ?a4 ?i4 ?l4 ?c4 ?k4 ?a5 ?i5 ?l5 ?c5 ?k5 ?a6 ?i6 ?l6 ?c6 ?k6 ?a7 ?l7 ?c7 ?k7 ?a8 ?l8 ?c8 ?k8 ?a9 ?l9 ?c9 ?k9 ?a10 ?l10 ?c10 ?k10 ?a11 ?l11 ?c11 ?k11 ?a12 ?l12 ?c12 ?k12 ?a13 ?l13 ?c13 ?k13 ?a14 ?l14 ?c14 ?k14 ?a15 ?l15 ?c15 ?k15 ?a16 ?l16 ?c16 ?k16 ?g_gcd ?z_abs ?z_bool ?z_int ?z_isinstance ?z_len ?z_list ?z_range ?z_reversed ?z_str ?z_tuple
    (case ac_Ratio => k_is)
    (case ac_Tape => k_is)
    (case pg_Ratio => k_is)
    (case hd_Ratio => k_is)
    (case po_Ratio => k_is)
    (case sa_Ratio => k_is)
    (case mkc_Ratio => k_is)
    (case kpc_Ratio => k_is)
    (case na_Ratio_num => k_is)
    (case na_Ratio_den => k_is)
    (case sf_Ratio => k_is)
    (case xa_Ratio => k_is)
    (case xn_Ratio => k_is)
    (case xt_Ratio => k_is)
    (case xm_Ratio => k_is)
    (case pg_Tape => k_is)
    (case hd_Tape => k_is)
    (case po_Tape => k_is)
    (case sa_Tape => k_is)
    (case mkc_Tape => k_is)
    (case kpc_Tape => k_is)
    (case na_Tape__results => k_is)
    (case na_Tape_taken => k_is)
    (case a1 => k_is)
    (case i1 => k_is)
    (case l1 => k_is)
    (case c1 => k_is)
    (case k1 => k_is)
    (case t1 => k_is)
    (case a2 => k_is)
    (case i2 => k_is)
    (case l2 => k_is)
    (case c2 => k_is)
    (case k2 => k_is)
    (case a3 => k_is)
    (case i3 => k_is)
    (case l3 => k_is)
    (case c3 => k_is)
    (case k3 => k_is)
    (case a4 => k_is)
    (case i4 => k_is)
    (case l4 => k_is)
    (case c4 => k_is)
    (case k4 => k_is)
    (case a5 => k_is)
    (case i5 => k_is)
    (case l5 => k_is)
    (case c5 => k_is)
    (case k5 => k_is)
    (case a6 => k_is)
    (case i6 => k_is)
    (case l6 => k_is)
    (case c6 => k_is)
    (case k6 => k_is)
    (case a7 => k_is)
    (case l7 => k_is)
    (case c7 => k_is)
    (case k7 => k_is)
    (case a8 => k_is)
    (case l8 => k_is)
    (case c8 => k_is)
    (case k8 => k_is)
    (case a9 => k_is)
    (case l9 => k_is)
    (case c9 => k_is)
    (case k9 => k_is)
    (case a10 => k_is)
    (case l10 => k_is)
    (case c10 => k_is)
    (case k10 => k_is)
    (case a11 => k_is)
    (case l11 => k_is)
    (case c11 => k_is)
    (case k11 => k_is)
    (case a12 => k_is)
    (case l12 => k_is)
    (case c12 => k_is)
    (case k12 => k_is)
    (case a13 => k_is)
    (case l13 => k_is)
    (case c13 => k_is)
    (case k13 => k_is)
    (case a14 => k_is)
    (case l14 => k_is)
    (case c14 => k_is)
    (case k14 => k_is)
    (case a15 => k_is)
    (case l15 => k_is)
    (case c15 => k_is)
    (case k15 => k_is)
    (case a16 => k_is)
    (case l16 => k_is)
    (case c16 => k_is)
    (case k16 => k_is)
    (case g_gcd => k_is)
    (case z_abs => k_is)
    (case z_bool => k_is)
    (case z_int => k_is)
    (case z_isinstance => k_is)
    (case z_len => k_is)
    (case z_list => k_is)
    (case z_range => k_is)
    (case z_reversed => k_is)
    (case z_str => k_is)
    (case z_tuple => k_is)
#print axioms PySem.Challenge.cw_sureplay_k60_lots_that_were_given_holds
