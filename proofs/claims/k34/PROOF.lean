import PyProof.Rows.All
import Wide.All
import OpenK.AllK
import Wide.FinOn
import HandS.ForMost
import HandS.IsInst
import HandS.Codes
import HandS.Style
import HandS.TupAny
import PySem.Challenge.RW_sureplay_k34_last_rows_and_ways
set_option Elab.async false
set_option linter.all false
set_option maxRecDepth 100000
set_option maxHeartbeats 4000000
namespace Own
open PySem PySem.Spec PyProof.Rows L2
def topS (i : Nat) : Stmt := PySem.Challenge.pw_sureplay_k34_last_rows_and_ways.main.body.getD i (.Pass ⟨0, 0, 0, 0⟩)
abbrev s_last_row : Stmt := (topS 1)
abbrev N_last_row : List Str := ["view", "at"]
theorem sc_last_row : FnScope N_last_row ["view"] (defScope s_last_row) := ⟨rfl, rfl, rfl, by decide +kernel, rfl, by decide +kernel, by decide +kernel⟩
abbrev s_way_to : Stmt := (topS 2)
abbrev N_way_to : List Str := ["view", "rows", "row"]
theorem sc_way_to : FnScope N_way_to ["view"] (defScope s_way_to) := ⟨rfl, rfl, rfl, by decide +kernel, rfl, by decide +kernel, by decide +kernel⟩
abbrev s_law_cell : Stmt := (topS 4)
abbrev N_law_cell : List Str := ["script", "k"]
theorem sc_law_cell : FnScope N_law_cell ["script", "k"] (defScope s_law_cell) := ⟨rfl, rfl, rfl, by decide +kernel, rfl, by decide +kernel, by decide +kernel⟩
abbrev s_law_is_integer : Stmt := (topS 5)
abbrev N_law_is_integer : List Str := ["actual"]
theorem sc_law_is_integer : FnScope N_law_is_integer ["actual"] (defScope s_law_is_integer) := ⟨rfl, rfl, rfl, by decide +kernel, rfl, by decide +kernel, by decide +kernel⟩
abbrev s_law : Stmt := (topS 6)
abbrev N_law : List Str := ["script", "view", "rows", "cell", "move", "due", "actual", "told"]
theorem sc_law : FnScope N_law ["script"] (defScope s_law) := ⟨rfl, rfl, rfl, by decide +kernel, rfl, by decide +kernel, by decide +kernel⟩
def spLaw (K : PySem.W.Frag) : Sp := fun vs H Q _ => ∃ (a : Addr) (ns : List Int), vs = [.ref a] ∧ SqL K H a (ns.map V.int) ∧ ns.length ≤ 63 ∧ ∀ H', Q (.bl true) H'
def cell (ns : List Int) (k : Int) : Int := ns.getD k.toNat 0
theorem same_upd {H : Hp} {p : Addr} {o : HO} (h : H p = none) : Same H (upd H p o) := fun b x e => by
  rw [upd_ne (ne_of_none e h)]
  exact e
theorem cut_from (xs : List V) (k : Nat) : cutV xs (some (k : Int)) none = xs.drop k := by
  unfold cutV
  rw [HT.sIx_nat, HT.sIx_none]
  by_cases h : k ≤ xs.length
  · rw [Nat.min_eq_left h]
    exact List.take_of_length_le (by rw [List.length_drop]; omega)
  · rw [Nat.min_eq_right (by omega), List.drop_eq_nil_of_le (by omega), List.drop_eq_nil_of_le (by omega)]
    simp
theorem cut_to (xs : List V) (k : Nat) : cutV xs none (some (k : Int)) = xs.take k := by
  unfold cutV
  rw [HT.sIx_nat, HT.sIx_none, List.drop_zero, Nat.sub_zero]
  by_cases h : k ≤ xs.length
  · rw [Nat.min_eq_left h]
  · rw [Nat.min_eq_right (by omega), List.take_of_length_le (Nat.le_refl _), List.take_of_length_le (by omega)]
theorem cut_to' (xs : List V) (k : Int) (h : 0 ≤ k) : cutV xs none (some k) = xs.take k.toNat := by
  obtain ⟨m, rfl⟩ := Int.eq_ofNat_of_zero_le h
  exact cut_to xs m
theorem cut_from' (xs : List V) (k : Int) (h : 0 ≤ k) : cutV xs (some k) none = xs.drop k.toNat := by
  obtain ⟨m, rfl⟩ := Int.eq_ofNat_of_zero_le h
  exact cut_from xs m
theorem small_le {n : Nat} (h : n ≤ 1000) : n ≤ sizeLine := Nat.le_of_lt (small1000 h)
theorem int_of_map {ns : List Int} {i : Nat} {y : V} (hi : (ns.map V.int)[i]? = some y) : ∃ z, ns[i]? = some z ∧ y = V.int z := by
  rw [List.getElem?_map] at hi
  cases e : ns[i]? with
  | none => rw [e] at hi; cases hi
  | some u => rw [e] at hi; exact ⟨u, rfl, (Option.some.inj hi).symm⟩
theorem dp_ints {K : PySem.W.Frag} {H : Hp} : ∀ ns : List Int, DpAll K H (ns.map V.int) (ns.map PyData.int)
  | [] => .nil
  | n :: r => .cons (.int n) (dp_ints r)
theorem lay_ints : ∀ ns : List Int, PyData.canLayAll0 (ns.map PyData.int) = true ∧ PyData.depthAll (ns.map PyData.int) = 0
  | [] => ⟨by simp [PyData.canLayAll0], by simp [PyData.depthAll]⟩
  | n :: r => by
    have ih := lay_ints r
    exact ⟨by simp [PyData.canLayAll0, PyData.canLay0, ih.1], by simp [PyData.depthAll, PyData.depth, ih.2]⟩
theorem shaped_ints (ns : List Int) : SeqAt.shaped (.list (ns.map PyData.int)) = true := by
  have h := lay_ints ns
  unfold SeqAt.shaped
  simp [PyData.canLay0, PyData.depth, h.1, h.2]
theorem eqv_ints (ns : List Int) : PyData.eqv (.list (ns.map PyData.int)) (.list (ns.map PyData.int)) = true :=
  SeqAt.eqv_refl _ (by rw [PyData.canLay0]; exact (lay_ints ns).1)

mutual
/-- data that never changes: scalars and tracked tuples of such -/
inductive Im (H : Hp) : V → PyData → Prop
  | non : Im H .non .none
  | bl (b : Bool) : Im H (.bl b) (.bool b)
  | int (i : Int) : Im H (.int i) (.int i)
  | str (x : Str) : Im H (.str x) (.str x)
  | tup {a : Addr} {xs : List V} {ds : List PyData} : H a = some (.tup xs) → ImAll H xs ds → Im H (.ref a) (.tuple ds)
inductive ImAll (H : Hp) : List V → List PyData → Prop
  | nil : ImAll H [] []
  | cons {v : V} {vs : List V} {d : PyData} {ds : List PyData} : Im H v d → ImAll H vs ds → ImAll H (v :: vs) (d :: ds)
end
/-- the tracked tuples stay -/
def KeepT (H H' : Hp) : Prop := ∀ b xs, H b = some (.tup xs) → H' b = some (.tup xs)
theorem KeepT.refl (H : Hp) : KeepT H H := fun _ _ h => h
theorem KeepT.trans {H H1 H2 : Hp} (a : KeepT H H1) (b : KeepT H1 H2) : KeepT H H2 := fun c x h => b c x (a c x h)
theorem keepT_of {H H' : Hp} (s : Same H H') : KeepT H H' := fun b xs h => s b _ h
theorem keepT_lst {H : Hp} {p : Addr} {xs ys : List V} (h : H p = some (.lst xs)) : KeepT H (upd H p (.lst ys)) := fun b zs e => by
  have n : b ≠ p := fun q => by rw [q, h] at e; cases e
  rw [upd_ne n]
  exact e
mutual
theorem Im.keep {H H' : Hp} (k : KeepT H H') : ∀ {v : V} {d : PyData}, Im H v d → Im H' v d
  | _, _, .non => .non
  | _, _, .bl b => .bl b
  | _, _, .int i => .int i
  | _, _, .str x => .str x
  | _, _, .tup h a => .tup (k _ _ h) (ImAll.keep k a)
theorem ImAll.keep {H H' : Hp} (k : KeepT H H') : ∀ {vs : List V} {ds : List PyData}, ImAll H vs ds → ImAll H' vs ds
  | _, _, .nil => .nil
  | _, _, .cons h a => .cons (Im.keep k h) (ImAll.keep k a)
end
mutual
theorem Im.dp {K : PySem.W.Frag} {H : Hp} : ∀ {v : V} {d : PyData}, Im H v d → Dp K H v d
  | _, _, .non => .non
  | _, _, .bl b => .bl b
  | _, _, .int i => .int i
  | _, _, .str x => .str x
  | _, _, .tup h a => .tup (SqT.of h) (ImAll.dp a)
theorem ImAll.dp {K : PySem.W.Frag} {H : Hp} : ∀ {vs : List V} {ds : List PyData}, ImAll H vs ds → DpAll K H vs ds
  | _, _, .nil => .nil
  | _, _, .cons h a => .cons (Im.dp h) (ImAll.dp a)
end
theorem ImAll.len {H : Hp} : ∀ {vs : List V} {ds : List PyData}, ImAll H vs ds → vs.length = ds.length
  | _, _, .nil => rfl
  | _, _, .cons _ a => by rw [List.length_cons, List.length_cons, ImAll.len a]
theorem ImAll.append {H : Hp} : ∀ {vs us : List V} {ds es : List PyData}, ImAll H vs ds → ImAll H us es → ImAll H (vs ++ us) (ds ++ es)
  | _, _, _, _, .nil, b => b
  | _, _, _, _, .cons h a, b => .cons h (ImAll.append a b)
theorem ImAll.get {H : Hp} : ∀ {vs : List V} {ds : List PyData} {i : Nat} {d : PyData}, ImAll H vs ds → ds[i]? = some d → ∃ v, vs[i]? = some v ∧ Im H v d
  | _, _, 0, _, .cons h _, e => by
    cases e
    exact ⟨_, rfl, h⟩
  | _, _, i + 1, _, .cons _ a, e => by
    rw [List.getElem?_cons_succ] at e
    rw [List.getElem?_cons_succ]
    exact ImAll.get a e
theorem ImAll.take {H : Hp} : ∀ {vs : List V} {ds : List PyData} (i : Nat), ImAll H vs ds → ImAll H (vs.take i) (ds.take i)
  | _, _, 0, _ => by
    rw [List.take_zero, List.take_zero]
    exact .nil
  | _, _, _ + 1, .nil => by
    rw [List.take_nil, List.take_nil]
    exact .nil
  | _, _, i + 1, .cons h a => .cons h (ImAll.take i a)
theorem ImAll.snoc {H : Hp} {vs : List V} {ds : List PyData} {v : V} {d : PyData} (a : ImAll H vs ds) (h : Im H v d) : ImAll H (vs ++ [v]) (ds ++ [d]) := a.append (.cons h .nil)
theorem ImAll.rev {H : Hp} : ∀ {vs : List V} {ds : List PyData}, ImAll H vs ds → ImAll H vs.reverse ds.reverse
  | _, _, .nil => .nil
  | _, _, .cons h a => by
    rw [List.reverse_cons, List.reverse_cons]
    exact (ImAll.rev a).snoc h
/-- what a comparison asks of data: sizes -/
def Lay (n : Nat) (d : PyData) : Prop := d.canLay0 = true ∧ d.depth ≤ n
theorem lay_all : ∀ {n : Nat} {ds : List PyData}, (∀ d ∈ ds, Lay n d) → PyData.canLayAll0 ds = true ∧ PyData.depthAll ds ≤ n
  | n, [], _ => ⟨by simp [PyData.canLayAll0], by simp [PyData.depthAll]⟩
  | n, d :: r, h => by
    have h1 := h d List.mem_cons_self
    have h2 := lay_all fun e he => h e (List.mem_cons_of_mem d he)
    refine ⟨by simp [PyData.canLayAll0, h1.1, h2.1], ?_⟩
    simp only [PyData.depthAll]
    exact Nat.max_le.mpr ⟨h1.2, h2.2⟩
theorem lay_tuple {n : Nat} {ds : List PyData} (h : ∀ d ∈ ds, Lay n d) : Lay (n + 1) (.tuple ds) := by
  have q := lay_all h
  exact ⟨by simp [PyData.canLay0, q.1], by simp only [PyData.depth]; omega⟩
theorem lay_list {n : Nat} {ds : List PyData} (h : ∀ d ∈ ds, Lay n d) : Lay (n + 1) (.list ds) := by
  have q := lay_all h
  exact ⟨by simp [PyData.canLay0, q.1], by simp only [PyData.depth]; omega⟩
theorem Lay.mono {n m : Nat} {d : PyData} (h : Lay n d) (l : n ≤ m) : Lay m d := ⟨h.1, Nat.le_trans h.2 l⟩
theorem Lay.shaped {n : Nat} {d : PyData} (h : Lay n d) (l : n ≤ 64) : SeqAt.shaped d = true := by
  unfold SeqAt.shaped
  rw [h.1, decide_eq_true (Nat.le_trans h.2 l)]
  rfl
theorem Lay.refl {n : Nat} {d : PyData} (h : Lay n d) : PyData.eqv d d = true := SeqAt.eqv_refl _ h.1
theorem lay_int (i : Int) : Lay 0 (.int i) := ⟨by simp [PyData.canLay0], by simp [PyData.depth]⟩
theorem lay_str {x : Str} (h : PyData.strOk x = true) : Lay 0 (.str x) := ⟨by simp [PyData.canLay0, h], by simp [PyData.depth]⟩
theorem lay_none : Lay 0 .none := ⟨by simp [PyData.canLay0], by simp [PyData.depth]⟩
theorem lay_bool (b : Bool) : Lay 0 (.bool b) := ⟨by simp [PyData.canLay0], by simp [PyData.depth]⟩
/-- view + (event,) -/
theorem cat_ev {K : PySem.W.Frag} {H : Hp} {v t u : Addr} {xs : List V} {ds : List PyData} {e : PyData} {Q : VK} (hv : H v = some (.tup xs)) (hA : ImAll H xs ds) (he : Im H (.ref t) e) (hu : H u = some (.tup [.ref t])) (hz : xs.length ≤ 900)
    (k : ∀ (p : Addr) (H' : Hp), Same H H' → Im H' (.ref p) (.tuple (ds ++ [e])) → Q (.ref p) H') : rCatA K (.ref v) (.ref u) H Q := by
  refine ⟨v, u, xs, [.ref t], rfl, rfl, SqT.of hv, SqT.of hu, by show xs.length + 1 ≤ sizeLine; exact small_le (by omega), fun z => ?_, fun _ z => (by cases z), fun _ _ p hp => ?_⟩
  · subst z
    cases hA
    exact k u H (Same.refl H) (.tup hu (.cons he .nil))
  · exact k p _ (same_upd hp) (.tup upd_same ((hA.snoc he).keep (keepT_of (same_upd hp))))
theorem upd2_same {H : Hp} {t u : Addr} {o o' : HO} (ht : H t = none) (hu : upd H t o u = none) : Same H (upd (upd H t o) u o') := (same_upd ht).trans (same_upd hu)


def evDid (k : Int) : PyData := .tuple [.str "did", .int k]
/-- an event: a name, then what it tells -/
def Ev (d : PyData) : Prop := Lay 1 d ∧ ∃ (s : Str) (rest : List PyData), d = .tuple (.str s :: rest) ∧ (s = "did" → ∃ k, rest = [.int k])
def didOf : PyData → Option Int
  | .tuple [.str s, .int k] => if s = "did" then some k else none
  | _ => none
def lastRow : List PyData → Option (List PyData × Int)
  | [] => none
  | d :: r => match lastRow r with
    | some (pre, k) => some (d :: pre, k)
    | none => (didOf d).map fun k => ([], k)
theorem didOf_did (k : Int) : didOf (evDid k) = some k := by
  unfold didOf evDid
  simp
theorem lastRow_snoc_none : ∀ (ds : List PyData) (e : PyData), didOf e = none → lastRow (ds ++ [e]) = lastRow ds
  | [], e, h => by
    show (match lastRow [] with | some (pre, k) => some (e :: pre, k) | none => (didOf e).map fun k => ([], k)) = none
    rw [h]
    rfl
  | d :: r, e, h => by
    have ih := lastRow_snoc_none r e h
    show (match lastRow (r ++ [e]) with | some (pre, k) => some (d :: pre, k) | none => (didOf d).map fun k => ([], k)) = _
    rw [ih]
    rfl
theorem lastRow_snoc_some : ∀ (ds : List PyData) (e : PyData) (k : Int), didOf e = some k → lastRow (ds ++ [e]) = some (ds, k)
  | [], e, k, h => by
    show (match lastRow [] with | some (pre, k) => some (e :: pre, k) | none => (didOf e).map fun k => ([], k)) = some ([], k)
    rw [h]
    rfl
  | d :: r, e, k, h => by
    have ih := lastRow_snoc_some r e k h
    show (match lastRow (r ++ [e]) with | some (pre, k) => some (d :: pre, k) | none => (didOf d).map fun k => ([], k)) = some (d :: r, k)
    rw [ih]
theorem lastRow_len : ∀ {ds pre : List PyData} {k : Int}, lastRow ds = some (pre, k) → pre.length < ds.length ∧ ∃ post, ds = pre ++ evDid k :: post ∨ True
  | [], _, _, h => by cases h
  | d :: r, pre, k, h => by
    refine ⟨?_, [], .inr trivial⟩
    unfold lastRow at h
    cases e : lastRow r with
    | none =>
      rw [e] at h
      cases q : didOf d with
      | none => rw [q] at h; cases h
      | some j =>
        rw [q] at h
        cases h
        simp
    | some p =>
      obtain ⟨p1, p2⟩ := p
      rw [e] at h
      cases h
      have ih := (lastRow_len e).1
      rw [List.length_cons, List.length_cons]
      omega
theorem lastRow_take : ∀ {ds pre : List PyData} {k : Int}, lastRow ds = some (pre, k) → pre = ds.take pre.length
  | [], _, _, h => by cases h
  | d :: r, pre, k, h => by
    unfold lastRow at h
    cases e : lastRow r with
    | none =>
      rw [e] at h
      cases q : didOf d with
      | none => rw [q] at h; cases h
      | some j =>
        rw [q] at h
        cases h
        rfl
    | some p =>
      obtain ⟨p1, p2⟩ := p
      rw [e] at h
      cases h
      have ih := lastRow_take e
      show d :: p1 = d :: r.take p1.length
      rw [← ih]
def row (pre : List PyData) (k : Int) : PyData := .tuple [.tuple pre, .int k]
inductive Way : List PyData → List PyData → Prop
  | nil {ds : List PyData} (h : lastRow ds = none) : Way ds []
  | snoc {ds pre : List PyData} {k : Int} {rs : List PyData} (h : lastRow ds = some (pre, k)) (w : Way pre rs) : Way ds (rs ++ [row pre k])
theorem Way.more {ds rs : List PyData} {e : PyData} (w : Way ds rs) (h : didOf e = none) : Way (ds ++ [e]) rs := by
  cases w with
  | nil q => exact .nil (by rw [lastRow_snoc_none _ _ h]; exact q)
  | snoc q w => exact .snoc (by rw [lastRow_snoc_none _ _ h]; exact q) w
theorem Way.did {ds rs : List PyData} (w : Way ds rs) (k : Int) : Way (ds ++ [evDid k]) (rs ++ [row ds k]) := .snoc (lastRow_snoc_some _ _ _ (didOf_did k)) w
theorem Way.lay {ds rs : List PyData} (w : Way ds rs) : (∀ d ∈ ds, Ev d) → ∀ r ∈ rs, Lay 3 r := by
  induction w with
  | nil _ => intro _ r hr; cases hr
  | @snoc ds pre k rs h w ih =>
    intro hd r hr
    have hp : ∀ d ∈ pre, Ev d := fun d m => by
      rw [lastRow_take h] at m
      exact hd d (List.mem_of_mem_take m)
    rcases List.mem_append.mp hr with m | m
    · exact ih hp r m
    · rw [List.mem_singleton.mp m]
      refine lay_tuple (n := 2) fun d m => ?_
      rcases List.mem_cons.mp m with rfl | m
      · exact lay_tuple fun d m => (hp d m).1
      · rw [List.mem_singleton.mp m]
        exact (lay_int k).mono (by omega)
theorem ev_of (s : Str) (hs : PyData.strOk s = true) (ns : List Int) (hd : s ≠ "did") : Ev (.tuple (.str s :: ns.map PyData.int)) := by
  refine ⟨lay_tuple (n := 0) fun d m => ?_, s, _, rfl, fun e => absurd e hd⟩
  rcases List.mem_cons.mp m with rfl | m
  · exact lay_str hs
  · obtain ⟨i, _, rfl⟩ := List.mem_map.mp m
    exact lay_int i
theorem ev_did (k : Int) : Ev (evDid k) := by
  refine ⟨lay_tuple (n := 0) fun d m => ?_, "did", [.int k], rfl, fun _ => ⟨k, rfl⟩⟩
  rcases List.mem_cons.mp m with rfl | m
  · exact lay_str (by decide +kernel)
  · rw [List.mem_singleton.mp m]
    exact lay_int k
theorem didOf_ne {s : Str} {r : List PyData} (h : s ≠ "did") : didOf (.tuple (.str s :: r)) = none := by
  unfold didOf
  split
  · rename_i e
    cases e
    rw [if_neg h]
  · rfl

structure Txt (K : PySem.W.Frag) (mg : Str → Option Value) where
  a_last_row : Addr
  d_last_row : FuncData
  F_last_row : Fun K "last_row" "last_row" s_last_row a_last_row d_last_row
  b_last_row : Binds K d_last_row ["view"] []
  m_last_row : mg "last_row" = some (.ref a_last_row)
  a_way_to : Addr
  d_way_to : FuncData
  F_way_to : Fun K "way_to" "way_to" s_way_to a_way_to d_way_to
  b_way_to : Binds K d_way_to ["view"] []
  m_way_to : mg "way_to" = some (.ref a_way_to)
  a_law_cell : Addr
  d_law_cell : FuncData
  F_law_cell : Fun K "_law_cell" "_law_cell" s_law_cell a_law_cell d_law_cell
  b_law_cell : Binds K d_law_cell ["script", "k"] []
  m_law_cell : mg "_law_cell" = some (.ref a_law_cell)
  a_law_is_integer : Addr
  d_law_is_integer : FuncData
  F_law_is_integer : Fun K "_law_is_integer" "_law_is_integer" s_law_is_integer a_law_is_integer d_law_is_integer
  b_law_is_integer : Binds K d_law_is_integer ["actual"] []
  m_law_is_integer : mg "_law_is_integer" = some (.ref a_law_is_integer)
  a_law : Addr
  d_law : FuncData
  F_law : Fun K "law" "law" s_law a_law d_law
  b_law : Binds K d_law ["script"] []
  m_law : mg "law" = some (.ref a_law)
  z_bool : mg "bool" = none
  z_int : mg "int" = none
  z_isinstance : mg "isinstance" = none
  z_len : mg "len" = none
  z_list : mg "list" = none
  z_tuple : mg "tuple" = none
section
variable {P : Program} {w : World} {K : PySem.W.Frag} {mg : Str → Option Value} {base : Heap}
/-! ### last_row -/
def sp_last_row (T : Txt K mg) : Sp := fun vs H Q _ => ∃ (a : Addr) (ds : List PyData), vs = [.ref a] ∧ Im H (.ref a) (.tuple ds) ∧ (∀ d ∈ ds, Ev d) ∧ ds.length ≤ 900 ∧ (lastRow ds = none → Q .non H) ∧
  ∀ pre k, lastRow ds = some (pre, k) → ∀ (p q : Addr) (H' : Hp), Same H H' → H' p = some (.tup [.ref q, .int k]) → Im H' (.ref q) (.tuple pre) → Q (.ref p) H'

theorem ok_last_row (T : Txt K mg) : FnOk P w K mg base CX0 1 T.a_last_row T.d_last_row ["view"] (sp_last_row T) := by
  refine T.F_last_row.ok sc_last_row (fun vs H Q E h => ?_) (fun cdv A outer s H vs Q E hr h => ?_)
  · obtain ⟨a, ds, rfl, _⟩ := h
    rfl
  obtain ⟨a, ds, rfl, hI, hE, hlen, q0, q1⟩ := h
  cases hI with
  | @tup _ xs _ hT hA =>
  have hxl := hA.len
  refine ⟨_, (pss_cons (ps_set (i := 1) sc_last_row.nd rfl (by first | exact Or.inl rfl | exact Or.inr rfl) (pe_op op_sub (pe_callB call_len_seq (by rfl) T.z_len (by first | exact PySem.boot_len | decide +kernel) (pa_cons (pv 0) pa_nil)) pe_int))
      (C8.pss_cut (ps_while PassesOwn.never (PW.pt (pw_and (pt_cmpR op_ge (pv 1) pe_int (nomark _)) (pw_and1 (pt_cmpR op_ne (pe_ix ix_tup (pe_ix ix_tup (pv 0) (pv 1) (fun _ _ => rfl)) pe_int (fun _ _ => rfl)) pe_str (nomark _))))) (pss_one (ps_aug (i := 1) sc_last_row.nd rfl (by first | exact Or.inl rfl | exact Or.inr rfl) pe_int ip_sub)))
      (pss_cons (ps_if (pt_cmpR op_lt (pv 1) pe_int (nomark _)) (pss_one (ps_ret pe_non)) pss_nil)
      (pss_one (ps_ret (pe_tup (pa_cons (pe_slice sl_tup (pv 0) po_none (po_some (pv 1))) (pa_cons (pe_ix ix_tup (pe_ix ix_tup (pv 0) (pv 1) (fun _ _ => rfl)) pe_int (fun _ _ => rfl)) pa_nil)))))))), ?_⟩
  refine ⟨_, rfl, a, xs, rfl, .inr (SqT.of hT), _, _, rfl, rfl, ?_⟩
  refine ⟨fun σ' H' => ∃ i : Nat, σ' = [some (.ref a), some (.int ((i : Int) - 1))] ∧ i ≤ ds.length ∧ H' = H ∧ (i = 0 → lastRow ds = none) ∧ (∀ j, i = j + 1 → ∃ k, ds[j]? = some (evDid k) ∧ lastRow ds = some (ds.take j, k)), ?_, ?_⟩
  · refine ⟨fun m σ H' => ∃ i : Nat, σ = [some (.ref a), some (.int ((i : Int) - 1))] ∧ m = i ∧ i ≤ ds.length ∧ lastRow (ds.take i) = lastRow ds ∧ H' = H, ⟨_, ds.length, ?_, rfl, Nat.le_refl _, by rw [List.take_length], rfl⟩, ?_⟩
    · rw [← hxl]
      rfl
    rintro m σ H0 ⟨i, rfl, rfl, hi, hl, rfl⟩
    refine ⟨_, rfl, _, _, rfl, rfl, _, rfl, ite2 (fun c => ?_) (fun c => ?_)⟩
    · have c' : (0 : Int) ≤ (m : Int) - 1 := of_decide_eq_true c
      obtain ⟨j, rfl⟩ : ∃ j, m = j + 1 := ⟨m - 1, by omega⟩
      have ej : ((j + 1 : Nat) : Int) - 1 = (j : Int) := by omega
      have gd : ds[j]? = some ds[j] := List.getElem?_eq_getElem (by omega)
      obtain ⟨v, gv, hv⟩ := hA.get gd
      have tk : ds.take (j + 1) = ds.take j ++ [ds[j]] := by rw [List.take_add_one, gd]; rfl
      obtain ⟨_, s0, rest, ed, hdid⟩ := hE ds[j] (List.getElem_mem (by omega))
      rw [ed] at hv
      cases hv with
      | @tup b ys _ hb hB =>
      cases hB with
      | @cons y yr _ _ hy hYr =>
      cases hy
      refine ⟨_, rfl, _, rfl, a, xs, _, .ref b, rfl, rfl, SqT.of hT, at_of ej gv, b, _, 0, .str s0, rfl, rfl, SqT.of hb, atI_nat (j := 0) rfl, rfl, _, rfl, ite2 (fun e => ?_) (fun e => ?_)⟩
      · have ne : s0 ≠ "did" := fun z => by rw [z] at e; simp at e
        refine ⟨fun σ' H' => σ' = [some (.ref a), some (.int ((j : Int) - 1))] ∧ H' = H0, fun σ' H' hN => ⟨j, by omega, j, hN.1, rfl, by omega, ?_, hN.2⟩, _, rfl, _, _, rfl, rfl, ?_, rfl⟩
        · rw [← hl, tk, lastRow_snoc_none _ _ (by rw [ed]; exact didOf_ne ne)]
        · show [some (V.ref a), some (.int (((j + 1 : Nat) : Int) - 1 - 1))] = _
          rw [ej]
      · have eq : s0 = "did" := Classical.byContradiction fun z => e (by simp [z])
        obtain ⟨k, rfl⟩ := hdid eq
        subst eq
        refine ⟨j + 1, rfl, hi, rfl, fun z => by omega, fun j' z => ?_⟩
        cases z
        refine ⟨k, by rw [gd, ed]; rfl, ?_⟩
        rw [← hl, tk, lastRow_snoc_some _ _ k (by rw [ed]; exact didOf_did k)]
    · have c' : ¬ (0 : Int) ≤ (m : Int) - 1 := fun z => c (decide_eq_true z)
      have m0 : m = 0 := by omega
      subst m0
      exact ⟨0, rfl, Nat.zero_le _, rfl, fun _ => by rw [← hl, List.take_zero]; rfl, fun j z => by omega⟩
  rintro σ1 H1 ⟨i, rfl, hi, rfl, h0, h1⟩
  refine ⟨_, rfl, _, _, rfl, rfl, _, rfl, ite2 (fun c => ?_) (fun c => ?_)⟩
  · have c' : (i : Int) - 1 < 0 := of_decide_eq_true c
    exact q0 (h0 (by omega))
  · have c' : ¬ (i : Int) - 1 < 0 := fun z => c (decide_eq_true z)
    obtain ⟨j, rfl⟩ : ∃ j, i = j + 1 := ⟨i - 1, by omega⟩
    have ej : ((j + 1 : Nat) : Int) - 1 = (j : Int) := by omega
    obtain ⟨k, gd, hl⟩ := h1 j rfl
    obtain ⟨v, gv, hv⟩ := hA.get gd
    cases hv with
    | @tup b ys _ hb hB =>
    cases hB with
    | @cons y yr _ _ hy hYr =>
    cases hy
    cases hYr with
    | @cons y2 yr2 _ _ hy2 hYr2 =>
    cases hy2
    cases hYr2
    refine ⟨_, rfl, _, rfl, _, rfl, a, xs, rfl, SqT.of hT, ?_, fun q hq => ?_⟩
    · rw [ej, HT.sIx_none, HT.sIx_nat]
      intro z
      have := z.2
      omega
    rw [ej, cut_to]
    generalize eH2 : upd H1 q _ = H2
    have s2 : Same H1 H2 := eH2 ▸ same_upd hq
    have e2 : H2 q = some (.tup (xs.take j)) := eH2 ▸ upd_same
    clear eH2
    refine ⟨_, rfl, _, rfl, a, xs, _, .ref b, rfl, rfl, SqT.of (s2 _ _ hT), atI_nat gv, b, _, 1, .int k, rfl, rfl, SqT.of (s2 _ _ hb), atI_nat (j := 1) rfl, by show 2 ≤ sizeLine; decide, fun p hp => ?_⟩
    refine q1 _ k hl p q _ (s2.trans (same_upd hp)) upd_same ?_
    exact .tup ((same_upd hp) _ _ e2) ((hA.take j).keep (keepT_of (s2.trans (same_upd hp))))
/-! ### way_to -/
def sp_way_to (T : Txt K mg) : Sp := fun vs H Q _ => ∃ (a : Addr) (ds rs : List PyData), vs = [.ref a] ∧ Im H (.ref a) (.tuple ds) ∧ (∀ d ∈ ds, Ev d) ∧ ds.length ≤ 900 ∧ Way ds rs ∧
  ∀ (p : Addr) (H' : Hp) (xs : List V), Same H H' → H' p = some (.lst xs) → ImAll H' xs rs → Q (.ref p) H'

theorem ok_way_to (T : Txt K mg) : FnOk P w K mg base CX0 2 T.a_way_to T.d_way_to ["view"] (sp_way_to T) := by
  refine T.F_way_to.ok sc_way_to (fun vs H Q E h => ?_) (fun cdv A outer s H vs Q E hr h => ?_)
  · obtain ⟨a, ds, rs, rfl, _⟩ := h
    rfl
  obtain ⟨a, ds, rs, rfl, hI, hE, hlen, hW, q⟩ := h
  refine ⟨_, (pss_cons (ps_set (i := 1) sc_way_to.nd rfl (by first | exact Or.inl rfl | exact Or.inr rfl) (pe_lst pa_nil))
      (pss_cons (ps_set (i := 2) sc_way_to.nd rfl (by first | exact Or.inl rfl | exact Or.inr rfl) (pe_call (ok_last_row T) (hr.mono (by decide)) (by rfl) T.m_last_row T.F_last_row.kp T.b_last_row .nil pass0 (pa_cons (pv 0) pa_nil)))
      (pss_cons (ps_while PassesOwn.never (pt_cmpR op_notN (pv 2) pe_non (nomark _)) (pss_cons (ps_expr (pe_bm PySem.F.plainAttrs_list PySem.F.slot_list_append PySem.F.type_list_append mt_append (pv 1) (pa_cons (pv 2) pa_nil)))
      (pss_one (ps_set (i := 2) sc_way_to.nd rfl (by first | exact Or.inl rfl | exact Or.inr rfl) (pe_call (ok_last_row T) (hr.mono (by decide)) (by rfl) T.m_last_row T.F_last_row.kp T.b_last_row .nil pass0 (pa_cons (pe_ix ix_tup (pv 2) pe_int (fun _ _ => rfl)) pa_nil))))))
      (pss_one (ps_ret (pe_revL (pv 1))))))), ?_⟩
  refine ⟨Nat.zero_le _, fun R hR => ?_⟩
  generalize eH1 : upd H R _ = H1
  have s1 : Same H H1 := eH1 ▸ same_upd hR
  have e1 : H1 R = some (.lst []) := eH1 ▸ upd_same
  clear eH1
  -- what holds ahead of each turn: the row at hand and those behind it
  let Inv : L2.St → Hp → Nat → Prop := fun σ' H' m => ∃ (v : V) (acc : List PyData) (xs : List V), σ' = [some (.ref a), some (.ref R), some v] ∧ Same H H' ∧ H' R = some (.lst xs) ∧ ImAll H' xs acc ∧ acc.length + m ≤ ds.length ∧
    ((v = .non ∧ rs = acc.reverse) ∨ ∃ (p qa : Addr) (pre : List PyData) (k : Int) (rest : List PyData), v = .ref p ∧ H' p = some (.tup [.ref qa, .int k]) ∧ Im H' (.ref qa) (.tuple pre) ∧ (∀ d ∈ pre, Ev d) ∧ pre.length < m ∧ Way pre rest ∧ rs = rest ++ [row pre k] ++ acc.reverse)
  have call : ∀ (b : Addr) (es qs : List PyData) (acc : List PyData) (xs : List V) (H2 : Hp) (D : L2.St → Hp → Prop), Im H2 (.ref b) (.tuple es) → (∀ d ∈ es, Ev d) → es.length ≤ 900 → Way es qs → rs = qs ++ acc.reverse → Same H H2 → H2 R = some (.lst xs) → ImAll H2 xs acc → acc.length + es.length ≤ ds.length →
      (∀ v H', Inv [some (.ref a), some (.ref R), some v] H' es.length → D [some (.ref a), some (.ref R), some v] H') → sp_last_row T [.ref b] H2 (fun v H' => D [some (.ref a), some (.ref R), some v] H') E0 := by
    intro b es qs acc xs H2 D hb hEs hl hw hrs hs hR2 hA2 hm hD
    refine ⟨b, es, rfl, hb, hEs, hl, fun hn => ?_, fun pre k hs2 p qa H' s' ep iq => ?_⟩
    · refine hD _ _ ⟨_, acc, xs, rfl, hs, hR2, hA2, hm, .inl ⟨rfl, ?_⟩⟩
      cases hw with
      | nil _ => exact hrs
      | snoc h _ => rw [hn] at h; cases h
    · refine hD _ _ ⟨_, acc, xs, rfl, hs.trans s', s' _ _ hR2, hA2.keep (keepT_of s'), hm, .inr ?_⟩
      cases hw with
      | nil h => rw [hs2] at h; cases h
      | @snoc _ pre' k' rest h w =>
        rw [hs2] at h
        cases h
        refine ⟨p, qa, pre, k, rest, rfl, ep, iq, fun d m => ?_, (lastRow_len hs2).1, w, hrs⟩
        rw [lastRow_take hs2] at m
        exact hEs d (List.mem_of_mem_take m)
  refine ⟨_, rfl, ?_⟩
  refine call a ds rs [] [] H1 _ (hI.keep (keepT_of s1)) hE hlen hW (by simp) s1 e1 .nil (by simp) fun v H2 I2 => ?_
  refine ⟨fun m σ' H' => Inv σ' H' m, ⟨_, I2⟩, ?_⟩
  rintro m σ3 H3 ⟨v, acc, xs, rfl, s3, e3, a3, hm, hv⟩
  rcases hv with ⟨rfl, hrs⟩ | ⟨p, qa, pre, k, rest, rfl, ep, iq, hpE, hpl, hw, hrs⟩
  · refine ⟨_, rfl, rfl, _, rfl, ?_⟩
    refine ⟨_, rfl, R, xs, rfl, SqL.of e3, fun o ho => ?_⟩
    refine q o _ _ (s3.trans (same_upd ho)) upd_same ?_
    rw [hrs]
    exact a3.rev.keep (keepT_of (same_upd ho))
  · refine ⟨_, rfl, rfl, _, rfl, ?_⟩
    have hx := a3.len
    refine ⟨fun σ' H' => ∃ m', m' < m ∧ Inv σ' H' m', fun σ' H' h => h, ?_⟩
    refine ⟨_, rfl, .inl ⟨rfl, _, SqL.of e3⟩, _, rfl, R, xs, _, rfl, rfl, e3, Nat.lt_of_le_of_lt (by omega) (small1000 (Nat.le_refl _)), ?_⟩
    have nR : p ≠ R := ne_of ep e3 (by intro z; cases z)
    have kp := keepT_lst (ys := xs ++ [.ref p]) e3
    have s4 : Same H (upd H3 R (.lst (xs ++ [.ref p]))) := fun b o eb => by
      rw [upd_ne (ne_of_none eb hR)]
      exact s3 b o eb
    refine ⟨_, rfl, p, _, 0, .ref qa, rfl, rfl, SqT.of (kp _ _ ep), atI_nat (j := 0) rfl, ?_⟩
    refine call qa pre rest (acc ++ [row pre k]) (xs ++ [.ref p]) _ _ (iq.keep kp) hpE (by omega) hw (by rw [hrs]; simp) s4 upd_same ((a3.keep kp).snoc (.tup (kp _ _ ep) (.cons (iq.keep kp) (.cons (.int k) .nil)))) (by rw [List.length_append]; show _ + 1 + _ ≤ _; omega) fun v H5 I5 => ⟨_, hpl, I5⟩
/-! ### _law_cell -/
def sp_law_cell (T : Txt K mg) : Sp := fun vs H Q _ => ∃ (a : Addr) (ns : List Int) (k : Int), vs = [.ref a, .int k] ∧ SqL K H a (ns.map V.int) ∧ 0 ≤ k ∧ Q (.int (cell ns k)) H

theorem ok_law_cell (T : Txt K mg) : FnOk P w K mg base CX0 1 T.a_law_cell T.d_law_cell ["script", "k"] (sp_law_cell T) := by
  refine T.F_law_cell.ok sc_law_cell (fun vs H Q E h => ?_) (fun cdv A outer s H vs Q E hr h => ?_)
  · obtain ⟨a, ns, k, rfl, _⟩ := h
    rfl
  obtain ⟨a, ns, k, rfl, hS, hk, q⟩ := h
  refine ⟨_, (pss_cons (ps_if (pt_cmpR op_lt (pv 1) (pe_callB call_len_seq (by rfl) T.z_len (by first | exact PySem.boot_len | decide +kernel) (pa_cons (pv 0) pa_nil)) (nomark _)) (pss_one (ps_ret (pe_ix ix_list (pv 0) (pv 1) (fun _ _ => rfl)))) pss_nil)
      (pss_one (ps_ret pe_int))), ?_⟩
  refine ⟨_, rfl, _, rfl, a, _, rfl, .inl hS, _, _, rfl, rfl, _, rfl, ite2 (fun c => ?_) (fun c => ?_)⟩
  · have c' : k < (((ns.map V.int).length : Nat) : Int) := of_decide_eq_true c
    rw [List.length_map] at c'
    have hlt : k.toNat < ns.length := by omega
    refine ⟨_, rfl, _, rfl, a, _, k, .int (cell ns k), rfl, rfl, hS, at_of (j := k.toNat) (by omega) ?_, q⟩
    rw [List.getElem?_map, List.getElem?_eq_getElem hlt]
    unfold cell
    rw [List.getD_eq_getElem?_getD, List.getElem?_eq_getElem hlt]
    rfl
  · have c' : ¬ k < (((ns.map V.int).length : Nat) : Int) := fun z => c (decide_eq_true z)
    rw [List.length_map] at c'
    have e : cell ns k = 0 := by
      unfold cell
      rw [List.getD_eq_getElem?_getD, List.getElem?_eq_none (by omega)]
      rfl
    rw [e] at q
    exact q
/-! ### _law_is_integer -/
def sp_law_is_integer (T : Txt K mg) : Sp := fun vs H Q _ => ∃ (k : Int), vs = [.int k] ∧ Q (.bl true) H

theorem ok_law_is_integer (T : Txt K mg) : FnOk P w K mg base CX0 1 T.a_law_is_integer T.d_law_is_integer ["actual"] (sp_law_is_integer T) := by
  refine T.F_law_is_integer.ok sc_law_is_integer (fun vs H Q E h => ?_) (fun cdv A outer s H vs Q E hr h => ?_)
  · obtain ⟨k, rfl, _⟩ := h
    rfl
  obtain ⟨k, rfl, q⟩ := h
  refine ⟨_, (pss_one (ps_ret (pe_and (pe_callB call_isi (by rfl) T.z_isinstance (by first | exact PySem.boot_isinstance | decide +kernel) (pa_cons (pv 0) (pa_cons (pe_bltn (v := .ty "int") (by rfl) T.z_int (by decide +kernel) rfl) pa_nil))) (pe_one (pe_not (pe_callB call_isi (by rfl) T.z_isinstance (by first | exact PySem.boot_isinstance | decide +kernel) (pa_cons (pv 0) (pa_cons (pe_bltn (v := .ty "bool") (by rfl) T.z_bool (by decide +kernel) rfl) pa_nil)))))))), ?_⟩
  refine ⟨_, rfl, .int k, .ty "int", .type "int", .type "int", true, rfl, .ty _, .base (.int _), kit_ty (by decide +kernel), true, rfl, ?_⟩
  refine iteT ?_
  refine ⟨_, rfl, .int k, .ty "bool", .type "int", .type "bool", false, rfl, .ty _, .base (.int _), kit_ty (by decide +kernel), false, rfl, ?_⟩
  exact q
/-! ### law -/
def sp_law (T : Txt K mg) : Sp := spLaw K

theorem ok_law (T : Txt K mg) : FnOk P w K mg base CX0 3 T.a_law T.d_law ["script"] (sp_law T) := by
  refine T.F_law.ok sc_law (fun vs H Q E h => ?_) (fun cdv A outer s H vs Q E hr h => ?_)
  · obtain ⟨a, ns, rfl, _⟩ := h
    rfl
  obtain ⟨a, ns, rfl, hS, h63, q⟩ := h
  refine ⟨_, (pss_cons (ps_set (i := 1) sc_law.nd rfl (by first | exact Or.inl rfl | exact Or.inr rfl) (pe_tup pa_nil))
      (pss_cons (ps_set (i := 2) sc_law.nd rfl (by first | exact Or.inl rfl | exact Or.inr rfl) (pe_lst pa_nil))
      (pss_cons (ps_for PassesOwn.never rfl (pi_list (pv 0)) (pg_name (i := 3) sc_law.nd rfl (by first | exact Or.inl rfl | exact Or.inr rfl)) (C8.pss_cut (ps_if (pt_cmpR op_eq (pe_op op_mod (pe_callTy call_int1 (by rfl) T.z_int (by first | exact PySem.boot_int | decide +kernel) (pa_cons (pv 3) pa_nil)) pe_int) pe_int (nomark _)) (pss_one (ps_set (i := 1) sc_law.nd rfl (by first | exact Or.inl rfl | exact Or.inr rfl) (pe_op op_catA (pv 1) (pe_tup (pa_cons (pe_tup (pa_cons pe_str (pa_cons (pe_op op_mod (pe_op op_fdiv (pv 3) pe_int) pe_int) pa_nil))) pa_nil))))) pss_nil)
      (C8.pss_cut (ps_if (pt_cmpR op_eq (pe_op op_mod (pe_callTy call_int1 (by rfl) T.z_int (by first | exact PySem.boot_int | decide +kernel) (pa_cons (pv 3) pa_nil)) pe_int) pe_int (nomark _)) (pss_one (ps_set (i := 1) sc_law.nd rfl (by first | exact Or.inl rfl | exact Or.inr rfl) (pe_op op_catA (pv 1) (pe_tup (pa_cons (pe_tup (pa_cons pe_str (pa_cons (pe_op op_mod (pe_op op_fdiv (pv 3) pe_int) pe_int) pa_nil))) pa_nil))))) pss_nil)
      (pss_one (ps_if (pt_cmpR op_gt (pe_op op_mod (pe_callTy call_int1 (by rfl) T.z_int (by first | exact PySem.boot_int | decide +kernel) (pa_cons (pv 3) pa_nil)) pe_int) pe_int (nomark _)) (pss_cons (ps_set (i := 1) sc_law.nd rfl (by first | exact Or.inl rfl | exact Or.inr rfl) (pe_op op_catA (pv 1) (pe_tup (pa_cons (pe_tup (pa_cons pe_str (pa_cons (pe_op op_mod (pe_op op_fdiv (pv 3) pe_int) pe_int) (pa_cons (pe_op op_add pe_int (pe_op op_mod (pe_op op_fdiv (pv 3) pe_int) pe_int)) pa_nil)))) pa_nil))))
      (pss_cons (ps_set (i := 4) sc_law.nd rfl (by first | exact Or.inl rfl | exact Or.inr rfl) (pe_op op_mod (pe_op op_fdiv (pv 3) pe_int) (pe_op op_add pe_int (pe_op op_mod (pe_op op_fdiv (pv 3) pe_int) pe_int))))
      (pss_cons (ps_expr (pe_bm PySem.F.plainAttrs_list PySem.F.slot_list_append PySem.F.type_list_append mt_append (pv 2) (pa_cons (pe_tup (pa_cons (pv 1) (pa_cons (pv 4) pa_nil))) pa_nil)))
      (pss_one (ps_set (i := 1) sc_law.nd rfl (by first | exact Or.inl rfl | exact Or.inr rfl) (pe_op op_catA (pv 1) (pe_tup (pa_cons (pe_tup (pa_cons pe_str (pa_cons (pv 4) pa_nil))) pa_nil)))))))) pss_nil)))))
      (C8.pss_cut (ps_if (pt_cmpR op_eq (pe_op op_mod (pe_op op_fdiv (pe_call (ok_law_cell T) (hr.mono (by decide)) (by rfl) T.m_law_cell T.F_law_cell.kp T.b_law_cell .nil pass0 (pa_cons (pv 0) (pa_cons pe_int pa_nil))) pe_int) pe_int) pe_int (nomark _)) (pss_one (ps_set (i := 1) sc_law.nd rfl (by first | exact Or.inl rfl | exact Or.inr rfl) (pe_op op_catA (pv 1) (pe_tup (pa_cons (pe_tup (pa_cons pe_str (pa_cons pe_int (pa_cons pe_int pa_nil)))) pa_nil))))) pss_nil)
      (pss_cons (ps_set (i := 5) sc_law.nd rfl (by first | exact Or.inl rfl | exact Or.inr rfl) pe_non)
      (C8.pss_cut (ps_if (pt_cmpR op_gt (pe_callB call_len_seq (by rfl) T.z_len (by first | exact PySem.boot_len | decide +kernel) (pa_cons (pv 2) pa_nil)) pe_int (nomark _)) (pss_one (ps_set (i := 5) sc_law.nd rfl (by first | exact Or.inl rfl | exact Or.inr rfl) (pe_ix ix_list (pv 2) (pe_un un_neg pe_int) (fun _ _ => rfl)))) pss_nil)
      (C8.pss_cut (ps_set (i := 6) sc_law.nd rfl (by first | exact Or.inl rfl | exact Or.inr rfl) (pe_call (ok_last_row T) (hr.mono (by decide)) (by rfl) T.m_last_row T.F_last_row.kp T.b_last_row .nil pass0 (pa_cons (pv 1) pa_nil)))
      (C8.pss_cut (ps_if (pt_cmpR op_isN (pv 5) pe_non (nomark _)) (pss_one (ps_if (pt_cmpR op_notN (pv 6) pe_non (nomark _)) (pss_one (ps_ret pe_bl)) pss_nil)) (pss_one (ps_if (PW.pt (pw_or (pt_not (pt_truth (pe_callB call_isi (by rfl) T.z_isinstance (by first | exact PySem.boot_isinstance | decide +kernel) (pa_cons (pv 6) (pa_cons (pe_bltn (v := .ty "tuple") (by rfl) T.z_tuple (by decide +kernel) rfl) pa_nil))) (fun _ => rfl))) (pw_or1 (pt_cmpR (op_neD hr.units) (pv 6) (pv 5) (nomark _))))) (pss_one (ps_ret pe_bl)) pss_nil)))
      (pss_cons (ps_set (i := 7) sc_law.nd rfl (by first | exact Or.inl rfl | exact Or.inr rfl) (pe_call (ok_way_to T) (hr.mono (by decide)) (by rfl) T.m_way_to T.F_way_to.kp T.b_way_to .nil pass0 (pa_cons (pv 1) pa_nil)))
      (pss_one (ps_ret (pe_and (pe_callB call_isi (by rfl) T.z_isinstance (by first | exact PySem.boot_isinstance | decide +kernel) (pa_cons (pv 7) (pa_cons (pe_bltn (v := .ty "list") (by rfl) T.z_list (by decide +kernel) rfl) pa_nil))) (pe_one (pe_cmpR (op_eqD hr.units) (pv 7) (pv 2) (nomark _))))))))))))))), ?_⟩
  refine ⟨by show 0 ≤ sizeLine; decide, fun v0 hv0 => ⟨by show 0 ≤ sizeLine; decide, fun R hR => ?_⟩⟩
  have hR0 : H R = none := (same_upd hv0).free hR
  have e0 : Im (upd (upd H v0 (.tup [])) R (.lst [])) (.ref v0) (.tuple []) := .tup (same_upd hR _ _ upd_same) .nil
  -- what holds of view and rows
  let St : Nat → V → Hp → Prop := fun n v H' => ∃ (va : Addr) (ds rs : List PyData) (xs : List V), v = .ref va ∧ Same H H' ∧ H' R = some (.lst xs) ∧ ImAll H' xs rs ∧ Im H' (.ref va) (.tuple ds) ∧ (∀ d ∈ ds, Ev d) ∧ Way ds rs ∧ ds.length ≤ n ∧ rs.length ≤ n
  have start : St 0 (.ref v0) (upd (upd H v0 (.tup [])) R (.lst [])) := ⟨v0, [], [], [], rfl, upd2_same hv0 hR, upd_same, .nil, e0, (fun _ h => by cases h), .nil rfl, Nat.le_refl _, Nat.le_refl _⟩
  -- one event more, which is no move made
  have more : ∀ (n : Nat) (va t u : Addr) (nm : Str) (is : List Int) (ds rs : List PyData) (xs : List V) (H' : Hp) (Q' : VK), PyData.strOk nm = true → nm ≠ "did" → n ≤ 800 → H' t = none → upd H' t (.tup (.str nm :: is.map V.int)) u = none →
      Same H H' → H' R = some (.lst xs) → ImAll H' xs rs → Im H' (.ref va) (.tuple ds) → (∀ d ∈ ds, Ev d) → Way ds rs → ds.length ≤ n → rs.length ≤ n →
      (∀ (p : Addr) (H2 : Hp), Same H H2 → H2 R = some (.lst xs) → ImAll H2 xs rs → Im H2 (.ref p) (.tuple (ds ++ [.tuple (.str nm :: is.map PyData.int)])) → (∀ d ∈ ds ++ [.tuple (.str nm :: is.map PyData.int)], Ev d) → Way (ds ++ [.tuple (.str nm :: is.map PyData.int)]) rs → Q' (.ref p) H2) →
      rCatA K (.ref va) (.ref u) (upd (upd H' t (.tup (.str nm :: is.map V.int))) u (.tup [.ref t])) Q' := by
    intro n va t u nm is ds rs xs H' Q' hs hd hn ht hu s1 e1 a1 i1 E1 w1 l1 l2 k
    cases i1 with
    | @tup _ vs _ hv hA =>
    have s2 := upd2_same (o := .tup (.str nm :: is.map V.int)) (o' := .tup [.ref t]) ht hu
    have ki : ∀ js : List Int, ImAll (upd (upd H' t (.tup (.str nm :: is.map V.int))) u (.tup [.ref t])) (js.map V.int) (js.map PyData.int) := by
      intro js
      induction js with
      | nil => exact .nil
      | cons j r ih => exact .cons (.int j) ih
    refine cat_ev (e := .tuple (.str nm :: is.map PyData.int)) (s2 _ _ hv) (hA.keep (keepT_of s2)) (.tup (same_upd hu _ _ upd_same) (.cons (.str nm) (ki is))) upd_same (by rw [hA.len]; omega) fun p H2 s3 i3 => ?_
    refine k p H2 (s1.trans (s2.trans s3)) (s3 _ _ (s2 _ _ e1)) (a1.keep (keepT_of (s2.trans s3))) i3 (fun d m => ?_) (w1.more (didOf_ne hd))
    rcases List.mem_append.mp m with m | m
    · exact E1 d m
    · rw [List.mem_singleton.mp m]
      exact ev_of nm hs is hd
  refine ⟨_, rfl, a, rfl, ⟨_, (upd2_same hv0 hR).seq hS⟩, for_list (K := K) (a := a) (xs := ns.map V.int) (fun i σ' H' => ∃ v y3 y4, σ' = [some (.ref a), some v, some (.ref R), y3, y4, none, none, none] ∧ St (3 * i) v H') ⟨_, none, none, rfl, start⟩ (fun i σ' H' _ ⟨_, _, _, _, ⟨_, _, _, _, _, s1, _⟩⟩ => s1.seq hS) ?_ ?_⟩
  · rintro i x σ1 H1 hx ⟨v, y3, y4, rfl, va, ds, rs, xs, rfl, s1, e1, a1, i1, E1, w1, l1, l2⟩
    obtain ⟨z, hz, rfl⟩ := int_of_map hx
    have hi : i < ns.length := (List.getElem?_eq_some_iff.mp hz).1
    -- the three cases: after each, one more event or none
    refine ⟨fun σ' H' => ∃ v, σ' = [some (.ref a), some v, some (.ref R), some (.int z), y4, none, none, none] ∧ St (3 * i + (if z % 4 = 0 then 1 else 0)) v H', ?_, ?_⟩
    · refine ⟨_, rfl, .inl ⟨_, rfl, _, _, rfl, rfl, by show (0 : Int) < 4; decide, rfl, _, rfl, ite2 (fun c => ?_) (fun c => ?_)⟩⟩
      · have c' : z % 4 = 0 := V.int.inj (of_decide_eq_true c)
        refine ⟨_, rfl, _, rfl, _, _, rfl, rfl, ⟨by decide, by decide⟩, _, _, rfl, rfl, by show (0 : Int) < 9; decide, by show 2 ≤ sizeLine; decide, fun t ht => ⟨by show 1 ≤ sizeLine; decide, fun u hu => ?_⟩⟩
        refine more (3 * i) va t u "round" [z / 4 % 9] ds rs xs H1 _ (by decide +kernel) (by decide +kernel) (by omega) ht hu s1 e1 a1 i1 E1 w1 l1 l2 fun p H2 s2 e2 a2 i2 E2 w2 => ?_
        refine ⟨_, rfl, p, _, rs, xs, rfl, s2, e2, a2, i2, E2, w2, ?_, ?_⟩
        · rw [if_pos c', List.length_append]
          show _ + 1 ≤ _
          omega
        · omega
      · have c' : ¬ z % 4 = 0 := fun z => c (decide_eq_true (congrArg V.int z))
        refine ⟨_, rfl, va, ds, rs, xs, rfl, s1, e1, a1, i1, E1, w1, ?_, ?_⟩ <;> rw [if_neg c'] <;> omega
    clear s1 e1 a1 i1 E1 w1 l1 l2
    rintro σ2 H2 ⟨v, rfl, va, ds, rs, xs, rfl, s1, e1, a1, i1, E1, w1, l1, l2⟩
    refine ⟨fun σ' H' => ∃ v, σ' = [some (.ref a), some v, some (.ref R), some (.int z), y4, none, none, none] ∧ St (3 * i + (if z % 4 ≤ 1 then 1 else 0)) v H', ?_, ?_⟩
    · refine ⟨_, rfl, .inl ⟨_, rfl, _, _, rfl, rfl, by show (0 : Int) < 4; decide, rfl, _, rfl, ite2 (fun c => ?_) (fun c => ?_)⟩⟩
      · have c' : z % 4 = 1 := V.int.inj (of_decide_eq_true c)
        rw [if_neg (by omega)] at l1 l2
        refine ⟨_, rfl, _, rfl, _, _, rfl, rfl, ⟨by decide, by decide⟩, _, _, rfl, rfl, by show (0 : Int) < 65536; decide, by show 2 ≤ sizeLine; decide, fun t ht => ⟨by show 1 ≤ sizeLine; decide, fun u hu => ?_⟩⟩
        refine more (3 * i) va t u "told" [z / 4 % 65536] ds rs xs H2 _ (by decide +kernel) (by decide +kernel) (by omega) ht hu s1 e1 a1 i1 E1 w1 l1 l2 fun p H3 s2 e2 a2 i2 E2 w2 => ?_
        refine ⟨_, rfl, p, _, rs, xs, rfl, s2, e2, a2, i2, E2, w2, ?_, ?_⟩
        · rw [if_pos (by omega), List.length_append]
          show _ + 1 ≤ _
          omega
        · omega
      · refine ⟨_, rfl, va, ds, rs, xs, rfl, s1, e1, a1, i1, E1, w1, ?_, ?_⟩
        · split at l1 <;> split <;> omega
        · split at l2 <;> split <;> omega
    clear s1 e1 a1 i1 E1 w1 l1 l2
    rintro σ3 H3 ⟨v, rfl, va, ds, rs, xs, rfl, s1, e1, a1, i1, E1, w1, l1, l2⟩
    refine ⟨_, rfl, .inl ⟨_, rfl, _, _, rfl, rfl, by show (0 : Int) < 4; decide, _, _, rfl, rfl, _, rfl, ite2 (fun c => ?_) (fun c => ?_)⟩⟩
    · have c' : 1 < z % 4 := of_decide_eq_true c
      rw [if_neg (by omega)] at l1 l2
      -- view = view + (('move', .., ..),)
      refine ⟨_, rfl, _, rfl, _, _, rfl, rfl, ⟨by decide, by decide⟩, _, _, rfl, rfl, by show (0 : Int) < 30; decide, _, rfl, _, _, rfl, rfl, ⟨by decide, by decide⟩, _, _, rfl, rfl, by show (0 : Int) < 8; decide, _, _, rfl, rfl, by show 3 ≤ sizeLine; decide, fun t ht => ⟨by show 1 ≤ sizeLine; decide, fun u hu => ?_⟩⟩
      refine more (3 * i) va t u "move" [z / 4 % 30, 1 + z / 120 % 8] ds rs xs H3 _ (by decide +kernel) (by decide +kernel) (by omega) ht hu s1 e1 a1 i1 E1 w1 l1 l2 fun p H4 s2 e2 a2 i2 E2 w2 => ?_
      have h8 : 0 ≤ z / 120 % 8 := Int.emod_nonneg _ (by decide)
      -- move = ..
      refine ⟨_, rfl, _, _, rfl, rfl, ⟨by decide, by decide⟩, _, rfl, _, _, rfl, rfl, ⟨by decide, by decide⟩, _, _, rfl, rfl, by show (0 : Int) < 8; decide, _, _, rfl, rfl, _, _, rfl, rfl, by show (0 : Int) < 1 + z / 120 % 8; omega, ?_⟩
      -- rows.append((view, move))
      refine ⟨_, rfl, .inl ⟨rfl, _, SqL.of e2⟩, _, rfl, _, rfl, by show 2 ≤ sizeLine; decide, fun r hr => ?_⟩
      generalize eH5 : upd H4 r _ = H5
      have s5 : Same H4 H5 := eH5 ▸ same_upd hr
      have e5 : H5 r = some (.tup [.ref p, .int (z / 960 % (1 + z / 120 % 8))]) := eH5 ▸ upd_same
      clear eH5
      have eR5 := s5 _ _ e2
      have xl := a2.len
      refine ⟨R, xs, _, rfl, rfl, eR5, Nat.lt_of_le_of_lt (by omega) (small1000 (Nat.le_refl _)), ?_⟩
      generalize eH6 : upd H5 R _ = H6
      have k6 : KeepT H5 H6 := eH6 ▸ keepT_lst eR5
      have e6 : H6 R = some (.lst (xs ++ [.ref r])) := eH6 ▸ upd_same
      have s6 : Same H H6 := fun b o eb => by
        rw [← eH6, upd_ne (ne_of_none eb hR0)]
        exact s5 b o (s2 b o eb)
      clear eH6
      have i6 : Im H6 (.ref p) _ := i2.keep ((keepT_of s5).trans k6)
      have a6 : ImAll H6 (xs ++ [.ref r]) (rs ++ [row (ds ++ [.tuple (.str "move" :: [z / 4 % 30, 1 + z / 120 % 8].map PyData.int)]) (z / 960 % (1 + z / 120 % 8))]) :=
        (a2.keep ((keepT_of s5).trans k6)).snoc (.tup (k6 _ _ e5) (.cons i6 (.cons (.int _) .nil)))
      -- view = view + (('did', move),)
      refine ⟨_, rfl, _, rfl, by show 2 ≤ sizeLine; decide, fun t2 ht2 => ⟨by show 1 ≤ sizeLine; decide, fun u2 hu2 => ?_⟩⟩
      cases i6 with
      | @tup _ vs6 _ hv6 hA6 =>
      have s7 := upd2_same (o := .tup [.str "did", .int (z / 960 % (1 + z / 120 % 8))]) (o' := .tup [.ref t2]) ht2 hu2
      refine cat_ev (e := evDid (z / 960 % (1 + z / 120 % 8))) (s7 _ _ hv6) (hA6.keep (keepT_of s7)) (.tup (same_upd hu2 _ _ upd_same) (.cons (.str "did") (.cons (.int _) .nil))) upd_same (by rw [hA6.len, List.length_append]; show _ + 1 ≤ 900; omega) fun p7 H7 s8 i8 => ?_
      refine ⟨_, _, _, rfl, p7, _, _, _, rfl, s6.trans (s7.trans s8), s8 _ _ (s7 _ _ e6), a6.keep (keepT_of (s7.trans s8)), i8, fun d m => ?_, w2.did _, ?_, ?_⟩
      · rcases List.mem_append.mp m with m | m
        · exact E2 d m
        · rw [List.mem_singleton.mp m]
          exact ev_did _
      · rw [List.length_append, List.length_append]
        show _ + 1 + 1 ≤ _
        omega
      · rw [List.length_append]
        show _ + 1 ≤ _
        omega
    · refine ⟨_, _, _, rfl, va, ds, rs, xs, rfl, s1, e1, a1, i1, E1, w1, ?_, ?_⟩
      · split at l1 <;> omega
      · split at l2 <;> omega
  rintro σ1 H1 ⟨v, y3, y4, rfl, va, ds, rs, xs, rfl, s1, e1, a1, i1, E1, w1, l1, l2⟩
  rw [List.length_map] at l1 l2
  -- at times a question at the end
  refine ⟨fun σ' H' => ∃ v, σ' = [some (.ref a), some v, some (.ref R), y3, y4, none, none, none] ∧ ∃ (va : Addr) (ds : List PyData), v = .ref va ∧ Same H H' ∧ H' R = some (.lst xs) ∧ ImAll H' xs rs ∧ Im H' (.ref va) (.tuple ds) ∧ (∀ d ∈ ds, Ev d) ∧ Way ds rs ∧ ds.length ≤ 300, ?_, ?_⟩
  · refine ⟨_, rfl, a, ns, 0, rfl, s1.seq hS, by decide, _, _, rfl, rfl, ⟨by decide, by decide⟩, _, _, rfl, rfl, by show (0 : Int) < 2; decide, rfl, _, rfl, ite2 (fun c => ?_) (fun c => ?_)⟩
    · refine ⟨_, rfl, by show 3 ≤ sizeLine; decide, fun t ht => ⟨by show 1 ≤ sizeLine; decide, fun u hu => ?_⟩⟩
      refine more (3 * ns.length) va t u "move" [30, 2] ds rs xs H1 _ (by decide +kernel) (by decide +kernel) (by omega) ht hu s1 e1 a1 i1 E1 w1 l1 l2 fun p H4 s2 e2 a2 i2 E2 w2 => ?_
      refine ⟨_, rfl, p, _, rfl, s2, e2, a2, i2, E2, w2, ?_⟩
      rw [List.length_append]
      show _ + 1 ≤ _
      omega
    · exact ⟨_, rfl, va, ds, rfl, s1, e1, a1, i1, E1, w1, by omega⟩
  clear s1 e1 a1 i1 E1 w1 l1
  rintro σ2 H2 ⟨v, rfl, va, ds, rfl, s1, e1, a1, i1, E1, w1, l1⟩
  have xl := a1.len
  -- due
  have hw : (rs = [] ∧ lastRow ds = none) ∨ ∃ rest pre k, rs = rest ++ [row pre k] ∧ lastRow ds = some (pre, k) := by
    cases w1 with
    | nil h => exact .inl ⟨rfl, h⟩
    | snoc h w => exact .inr ⟨_, _, _, rfl, h⟩
  refine ⟨fun σ' H' => ∃ dv, σ' = [some (.ref a), some (.ref va), some (.ref R), y3, y4, some dv, none, none] ∧ H' = H2 ∧ ((dv = .non ∧ lastRow ds = none) ∨ ∃ p pre k, dv = .ref p ∧ lastRow ds = some (pre, k) ∧ Im H2 (.ref p) (row pre k)), ?_, ?_⟩
  · refine ⟨_, rfl, R, xs, rfl, .inl (SqL.of e1), _, _, rfl, rfl, _, rfl, ite2 (fun c => ?_) (fun c => ?_)⟩
    · have c' : (0 : Int) < ((xs.length : Nat) : Int) := of_decide_eq_true c
      rcases hw with ⟨rfl, _⟩ | ⟨rest, pre, k, rfl, hl⟩
      · have z : xs.length = 0 := xl
        omega
      · obtain ⟨v, gv, hv⟩ := a1.get (i := rest.length) (d := row pre k) (by simp)
        have il := hv
        cases hv with
        | @tup p vs _ hp _ =>
        refine ⟨_, rfl, 1, rfl, R, xs, -1, .ref p, rfl, rfl, SqL.of e1, ?_, _, rfl, rfl, .inr ⟨p, pre, k, rfl, hl, il⟩⟩
        have hx : xs.length = rest.length + 1 := by rw [xl, List.length_append]; rfl
        have ex : xs = xs.dropLast ++ [.ref p] := by
          have hne : xs ≠ [] := fun z => by rw [z] at hx; cases hx
          have g2 : xs.getLast hne = .ref p := by
            rw [List.getLast_eq_getElem]
            have := (List.getElem?_eq_some_iff.mp gv).2
            rw [← this]
            congr 1
            omega
          rw [← g2]
          exact (List.dropLast_concat_getLast hne).symm
        rw [ex]
        exact atI_last _ _
    · have c' : ¬ (0 : Int) < ((xs.length : Nat) : Int) := fun z => c (decide_eq_true z)
      rcases hw with ⟨rfl, hl⟩ | ⟨rest, pre, k, rfl, hl⟩
      · exact ⟨_, rfl, rfl, .inl ⟨rfl, hl⟩⟩
      · exfalso
        rw [List.length_append] at xl
        have : ([row pre k] : List PyData).length = 1 := rfl
        omega
  rintro σ3 H3 ⟨dv, rfl, rfl, hdv⟩
  -- actual
  refine ⟨fun σ' H' => ∃ x, σ' = [some (.ref a), some (.ref va), some (.ref R), y3, y4, some dv, some x, none] ∧ Same H3 H' ∧ ((dv = .non ∧ x = .non) ∨ ∃ p p0 pre k, dv = .ref p0 ∧ x = .ref p ∧ lastRow ds = some (pre, k) ∧ Im H' (.ref p0) (row pre k) ∧ Im H' (.ref p) (row pre k)), ?_, ?_⟩
  · refine ⟨_, rfl, va, ds, rfl, i1, E1, by omega, fun hn => ?_, fun pre k hs p qa H' s' ep iq => ?_⟩
    · rcases hdv with ⟨rfl, _⟩ | ⟨_, _, _, _, h, _⟩
      · exact ⟨_, rfl, Same.refl _, .inl ⟨rfl, rfl⟩⟩
      · rw [hn] at h; cases h
    · rcases hdv with ⟨_, h⟩ | ⟨p0, pre0, k0, rfl, h, i0⟩
      · rw [hs] at h; cases h
      · rw [hs] at h
        cases h
        exact ⟨_, rfl, s', .inr ⟨p, p0, pre, k, rfl, rfl, hs, i0.keep (keepT_of s'), .tup ep (.cons iq (.cons (.int k) .nil))⟩⟩
  rintro σ4 H4 ⟨x, rfl, s4, hx⟩
  refine ⟨fun σ' H' => σ' = [some (.ref a), some (.ref va), some (.ref R), y3, y4, some dv, some x, none] ∧ H' = H4, ?_, ?_⟩
  · rcases hx with ⟨rfl, rfl⟩ | ⟨p, p0, pre, k, rfl, rfl, hl, i0, ip⟩
    · exact ⟨_, rfl, rfl, _, rfl, _, rfl, rfl, _, rfl, rfl, rfl⟩
    · have hlay : Lay 3 (row pre k) := by
        refine lay_tuple (n := 2) fun d m => ?_
        rcases List.mem_cons.mp m with rfl | m
        · refine lay_tuple fun d m => (E1 d ?_).1
          rw [lastRow_take hl] at m
          exact List.mem_of_mem_take m
        · rw [List.mem_singleton.mp m]
          exact (lay_int k).mono (by omega)
      have d1 := ip.dp (K := K)
      have d2 := i0.dp (K := K)
      cases ip with
      | @tup _ vs _ hp _ =>
      refine ⟨_, rfl, rfl, _, rfl, ?_⟩
      refine ⟨_, rfl, .ref p, .ty "tuple", .type "tuple", .type "tuple", true, rfl, .ty _, .base (.tup hp), kit_ty (by decide +kernel), true, rfl, ?_⟩
      refine ⟨_, rfl, _, rfl, _, _, d1, d2, hlay.shaped (by omega), hlay.shaped (by omega), _, rfl, ?_⟩
      rw [hlay.refl]
      exact ⟨rfl, rfl⟩
  rintro σ5 H5 ⟨rfl, rfl⟩
  -- told
  refine ⟨_, rfl, va, ds, rs, rfl, i1.keep (keepT_of s4), E1, by omega, w1, fun p H6 xs6 s6 e6 a6 => ?_⟩
  have hlay : Lay 4 (.list rs) := lay_list fun r m => w1.lay E1 r m
  refine ⟨_, rfl, .ref p, .ty "list", .type "list", .type "list", true, rfl, .ty _, .base (.lst e6), kit_ty (by decide +kernel), true, rfl, ?_⟩
  refine ⟨_, rfl, _, rfl, .list rs, .list rs, .lst (SqL.of e6) a6.dp, .lst (SqL.of (s6 _ _ (s4 _ _ e1))) (a1.keep (keepT_of (s4.trans s6))).dp, hlay.shaped (by omega), hlay.shaped (by omega), ?_⟩
  show Q (.bl (PyData.eqv (.list rs) (.list rs))) _
  rw [hlay.refl]
  exact q _
end
/-! ### what the top has written -/
theorem all_mk {l : PySem.W.OpenLaw} {w : World} {K : PySem.W.Frag} {h : Heap} {mg : Str → Option Value} {fa : Addr} (X : K.In h) (G : h.Ns mainGlobals mg) (hfa : mg "law" = some (.ref fa))
    {f1 : Addr} {od1 an1 : Option Addr} {sl1 : Array (Option Value)} {oc1 kV1 dc1 pm1 cd1 ct1 : Value}
    {f2 : Addr} {od2 an2 : Option Addr} {sl2 : Array (Option Value)} {oc2 kV2 dc2 pm2 cd2 ct2 : Value}
    {f3 : Addr} {od3 an3 : Option Addr} {sl3 : Array (Option Value)} {oc3 kV3 dc3 pm3 cd3 ct3 : Value}
    {f4 : Addr} {od4 an4 : Option Addr} {sl4 : Array (Option Value)} {oc4 kV4 dc4 pm4 cd4 ct4 : Value}
    {f5 : Addr} {od5 an5 : Option Addr} {sl5 : Array (Option Value)} {oc5 kV5 dc5 pm5 cd5 ct5 : Value}
    (a1 : PySem.W.nsIn K mainGlobals "last_row" = some (some (.ref f1)))
    (l1 : K.lookup f1 = some ⟨oc1, od1, .func (PySem.W.fnOf "last_row" "last_row" (defArgs s_last_row) (defBody s_last_row) (defScope s_last_row) .none kV1 dc1 pm1 an1 cd1 ct1), sl1⟩)
    (c1 : PySem.W.codeIn K cd1 "last_row" = true)
    (k1 : PySem.W.keepIn K (.ref f1) = true)
    (a2 : PySem.W.nsIn K mainGlobals "way_to" = some (some (.ref f2)))
    (l2 : K.lookup f2 = some ⟨oc2, od2, .func (PySem.W.fnOf "way_to" "way_to" (defArgs s_way_to) (defBody s_way_to) (defScope s_way_to) .none kV2 dc2 pm2 an2 cd2 ct2), sl2⟩)
    (c2 : PySem.W.codeIn K cd2 "way_to" = true)
    (k2 : PySem.W.keepIn K (.ref f2) = true)
    (a3 : PySem.W.nsIn K mainGlobals "_law_cell" = some (some (.ref f3)))
    (l3 : K.lookup f3 = some ⟨oc3, od3, .func (PySem.W.fnOf "_law_cell" "_law_cell" (defArgs s_law_cell) (defBody s_law_cell) (defScope s_law_cell) .none kV3 dc3 pm3 an3 cd3 ct3), sl3⟩)
    (c3 : PySem.W.codeIn K cd3 "_law_cell" = true)
    (k3 : PySem.W.keepIn K (.ref f3) = true)
    (a4 : PySem.W.nsIn K mainGlobals "_law_is_integer" = some (some (.ref f4)))
    (l4 : K.lookup f4 = some ⟨oc4, od4, .func (PySem.W.fnOf "_law_is_integer" "_law_is_integer" (defArgs s_law_is_integer) (defBody s_law_is_integer) (defScope s_law_is_integer) .none kV4 dc4 pm4 an4 cd4 ct4), sl4⟩)
    (c4 : PySem.W.codeIn K cd4 "_law_is_integer" = true)
    (k4 : PySem.W.keepIn K (.ref f4) = true)
    (a5 : PySem.W.nsIn K mainGlobals "law" = some (some (.ref f5)))
    (l5 : K.lookup f5 = some ⟨oc5, od5, .func (PySem.W.fnOf "law" "law" (defArgs s_law) (defBody s_law) (defScope s_law) .none kV5 dc5 pm5 an5 cd5 ct5), sl5⟩)
    (c5 : PySem.W.codeIn K cd5 "law" = true)
    (k5 : PySem.W.keepIn K (.ref f5) = true)
    (z_bool : PySem.W.nsIn K mainGlobals "bool" = some none)
    (z_int : PySem.W.nsIn K mainGlobals "int" = some none)
    (z_isinstance : PySem.W.nsIn K mainGlobals "isinstance" = some none)
    (z_len : PySem.W.nsIn K mainGlobals "len" = some none)
    (z_list : PySem.W.nsIn K mainGlobals "list" = some none)
    (z_tuple : PySem.W.nsIn K mainGlobals "tuple" = some none) :
    ∃ fd : FuncData, (∀ (s : Shared) (v : Value), BindsTo s fd ⟨[v], []⟩ [("script", v)]) ∧ ∀ base : Heap, K.In base → base.Ns mainGlobals mg → FnOk l.prog w K mg base CX0 3 fa fd ["script"] (spLaw K) := by
  have e := hfa.symm.trans (PySem.W.mg_of X G a5)
  cases e
  let T : Txt K mg := { a_last_row := f1, d_last_row := _, F_last_row := fun_mk (st := s_last_row) l1 c1 k1, b_last_row := (fun_mk (st := s_last_row) l1 c1 k1).binds (ps := ["view"]) (fun _ _ _ _ _ _ us hl => match us, hl with | [_], _ => rfl), m_last_row := PySem.W.mg_of X G a1, a_way_to := f2, d_way_to := _, F_way_to := fun_mk (st := s_way_to) l2 c2 k2, b_way_to := (fun_mk (st := s_way_to) l2 c2 k2).binds (ps := ["view"]) (fun _ _ _ _ _ _ us hl => match us, hl with | [_], _ => rfl), m_way_to := PySem.W.mg_of X G a2, a_law_cell := f3, d_law_cell := _, F_law_cell := fun_mk (st := s_law_cell) l3 c3 k3, b_law_cell := (fun_mk (st := s_law_cell) l3 c3 k3).binds (ps := ["script", "k"]) (fun _ _ _ _ _ _ us hl => match us, hl with | [_, _], _ => rfl), m_law_cell := PySem.W.mg_of X G a3, a_law_is_integer := f4, d_law_is_integer := _, F_law_is_integer := fun_mk (st := s_law_is_integer) l4 c4 k4, b_law_is_integer := (fun_mk (st := s_law_is_integer) l4 c4 k4).binds (ps := ["actual"]) (fun _ _ _ _ _ _ us hl => match us, hl with | [_], _ => rfl), m_law_is_integer := PySem.W.mg_of X G a4, a_law := fa, d_law := _, F_law := fun_mk (st := s_law) l5 c5 k5, b_law := (fun_mk (st := s_law) l5 c5 k5).binds (ps := ["script"]) (fun _ _ _ _ _ _ us hl => match us, hl with | [_], _ => rfl), m_law := PySem.W.mg_of X G a5, z_bool := PySem.W.mg_none_of X G z_bool, z_int := PySem.W.mg_none_of X G z_int, z_isinstance := PySem.W.mg_none_of X G z_isinstance, z_len := PySem.W.mg_none_of X G z_len, z_list := PySem.W.mg_none_of X G z_list, z_tuple := PySem.W.mg_none_of X G z_tuple }
  exact ⟨T.d_law, fun s v => .of_eq rfl, fun base _ _ => ok_law T⟩
end Own
open PySem PySem.W PyProof.Rows
set_option maxHeartbeats 0 in
theorem PySem.Challenge.cw_sureplay_k34_last_rows_and_ways_holds : PySem.Challenge.rw_sureplay_k34_last_rows_and_ways.Holds := by
  w_on; o_law; k_head; (case hw => w_witness2)
  k_fill
  refine L2.walk_of (l := PySem.Challenge.rw_sureplay_k34_last_rows_and_ways) (n := 63) (k := 3) (x := "script") (CX := fun _ => L2.CX0) (sp := fun w => Own.spLaw _) rfl (by decide) rfl ⟨rfl, by decide, by decide⟩ (fun w h Y => PySem.W.kIn_of Y) ?F (fun _ _ a ns hl _ hS => ⟨a, ns, rfl, hS, hl, fun _ => rfl⟩) (fun _ _ _ _ _ h => h)
  case F =>
    intro w mg fa h KX G hmg
    refine' Own.all_mk KX G hmg ?a1 ?l1 ?c1 ?k1 ?a2 ?l2 ?c2 ?k2 ?a3 ?l3 ?c3 ?k3 ?a4 ?l4 ?c4 ?k4 ?a5 ?l5 ?c5 ?k5 ?z_bool ?z_int ?z_isinstance ?z_len ?z_list ?z_tuple
    (case a1 => k_is)
    (case l1 => k_is)
    (case c1 => k_is)
    (case k1 => k_is)
    (case a2 => k_is)
    (case l2 => k_is)
    (case c2 => k_is)
    (case k2 => k_is)
    (case a3 => k_is)
    (case l3 => k_is)
    (case c3 => k_is)
    (case k3 => k_is)
    (case a4 => k_is)
    (case l4 => k_is)
    (case c4 => k_is)
    (case k4 => k_is)
    (case a5 => k_is)
    (case l5 => k_is)
    (case c5 => k_is)
    (case k5 => k_is)
    (case z_bool => k_is)
    (case z_int => k_is)
    (case z_isinstance => k_is)
    (case z_len => k_is)
    (case z_list => k_is)
    (case z_tuple => k_is)
#print axioms PySem.Challenge.cw_sureplay_k34_last_rows_and_ways_holds
