import PyProof.Rows.All
import Wide.All
import OpenK.AllK
import Wide.FinOn
import HandS.TupAny
import HandS.ForMost
import HandS.IsInst
import HandS.Codes
import HandS.Walk
import HandS.Text
import HandS.StrMore
import HandS.ExcField
import HandS.Exc
import HandS.ExcOwn
import HandS.TryOnly
import HandS.WordsExc
import HandS.CallSlots
import HandS.HotCalls
import HandS.FStr
import HandS.ExcInit
import HandS.Nested
import KE.KExcSuper
import HandS.Property
import HandS.Defaults
import HandS.MakeKwOnly
import HandS.ReCall
import HandS.Strs
import HandS.Star
import HandS.Zip
import HandS.DictComp
import HandS.More
import HandS.SlotsOwn
import PySem.Challenge.RW_sureplay_k18_bounds_of_a_game
set_option Elab.async false
set_option linter.all false
set_option maxRecDepth 100000
set_option maxHeartbeats 4000000
namespace Own
open PySem PySem.Spec PyProof.Rows L2
def topS (i : Nat) : Stmt := PySem.Challenge.pw_sureplay_k18_bounds_of_a_game.main.body.getD i (.Pass ⟨0, 0, 0, 0⟩)
abbrev s_Cursor_init : Stmt := (inClass (topS 14) 0)
abbrev N_Cursor_init : List Str := ["self", "words", "options", "variables", "sees"]
theorem sc_Cursor_init : FnScope N_Cursor_init ["self", "words", "options", "variables", "sees"] (defScope s_Cursor_init) := ⟨rfl, rfl, rfl, by decide +kernel, rfl, by decide +kernel, by decide +kernel⟩
abbrev s_BlockReader_init : Stmt := (inClass (topS 27) 0)
abbrev N_BlockReader_init : List Str := ["self", "cursor"]
theorem sc_BlockReader_init : FnScope N_BlockReader_init ["self", "cursor"] (defScope s_BlockReader_init) := ⟨rfl, rfl, rfl, by decide +kernel, rfl, by decide +kernel, by decide +kernel⟩
abbrev s_Game_init : Stmt := (inClass (topS 35) 0)
abbrev N_Game_init : List Str := ["self", "options", "variables", "rounds", "name", "on", "size", "block"]
theorem sc_Game_init : FnScope N_Game_init ["self", "options", "variables", "rounds"] (defScope s_Game_init) := ⟨rfl, rfl, rfl, by decide +kernel, rfl, by decide +kernel, by decide +kernel⟩
abbrev s_split_words : Stmt := (topS 10)
abbrev N_split_words : List Str := ["text"]
theorem sc_split_words : FnScope N_split_words ["text"] (defScope s_split_words) := ⟨rfl, rfl, rfl, by decide +kernel, rfl, by decide +kernel, by decide +kernel⟩
abbrev s_join_words : Stmt := (topS 11)
abbrev N_join_words : List Str := ["words"]
theorem sc_join_words : FnScope N_join_words ["words"] (defScope s_join_words) := ⟨rfl, rfl, rfl, by decide +kernel, rfl, by decide +kernel, by decide +kernel⟩
abbrev s_is_name : Stmt := (topS 12)
abbrev N_is_name : List Str := ["word", "sign"]
theorem sc_is_name : FnScope N_is_name ["word"] (defScope s_is_name) := ⟨rfl, rfl, rfl, by decide +kernel, rfl, by decide +kernel, by decide +kernel⟩
abbrev s_number_of : Stmt := (topS 13)
abbrev N_number_of : List Str := ["word", "number"]
theorem sc_number_of : FnScope N_number_of ["word"] (defScope s_number_of) := ⟨rfl, rfl, rfl, by decide +kernel, rfl, by decide +kernel, by decide +kernel⟩
abbrev s_Cursor_word : Stmt := (inClass (topS 14) 1)
abbrev N_Cursor_word : List Str := ["self"]
theorem sc_Cursor_word : FnScope N_Cursor_word ["self"] (defScope s_Cursor_word) := ⟨rfl, rfl, rfl, by decide +kernel, rfl, by decide +kernel, by decide +kernel⟩
abbrev s_Cursor_pass_if : Stmt := (inClass (topS 14) 6)
abbrev N_Cursor_pass_if : List Str := ["self", "fits"]
theorem sc_Cursor_pass_if : FnScope N_Cursor_pass_if ["self", "fits"] (defScope s_Cursor_pass_if) := ⟨rfl, rfl, rfl, by decide +kernel, rfl, by decide +kernel, by decide +kernel⟩
abbrev s_Cursor_take_word : Stmt := (inClass (topS 14) 2)
abbrev N_Cursor_take_word : List Str := ["self", "word"]
theorem sc_Cursor_take_word : FnScope N_Cursor_take_word ["self", "word"] (defScope s_Cursor_take_word) := ⟨rfl, rfl, rfl, by decide +kernel, rfl, by decide +kernel, by decide +kernel⟩
abbrev s_Cursor_take_number : Stmt := (inClass (topS 14) 3)
abbrev N_Cursor_take_number : List Str := ["self", "least", "most", "word", "number"]
theorem sc_Cursor_take_number : FnScope N_Cursor_take_number ["self", "least", "most"] (defScope s_Cursor_take_number) := ⟨rfl, rfl, rfl, by decide +kernel, rfl, by decide +kernel, by decide +kernel⟩
abbrev s_Cursor_take_name : Stmt := (inClass (topS 14) 4)
abbrev N_Cursor_take_name : List Str := ["self", "names", "word"]
theorem sc_Cursor_take_name : FnScope N_Cursor_take_name ["self", "names"] (defScope s_Cursor_take_name) := ⟨rfl, rfl, rfl, by decide +kernel, rfl, by decide +kernel, by decide +kernel⟩
abbrev s_Cursor_take_new_name : Stmt := (inClass (topS 14) 5)
abbrev N_Cursor_take_new_name : List Str := ["self", "names", "word"]
theorem sc_Cursor_take_new_name : FnScope N_Cursor_take_new_name ["self", "names"] (defScope s_Cursor_take_new_name) := ⟨rfl, rfl, rfl, by decide +kernel, rfl, by decide +kernel, by decide +kernel⟩
abbrev s_openings : Stmt := (topS 18)
abbrev N_openings : List Str := ["cursor", "room", "words"]
theorem sc_openings : FnScope N_openings ["cursor", "room"] (defScope s_openings) := ⟨rfl, rfl, rfl, by decide +kernel, rfl, by decide +kernel, by decide +kernel⟩
abbrev s_read_parts : Stmt := (topS 19)
abbrev N_read_parts : List Str := ["cursor", "word", "room", "option", "left", "right"]
theorem sc_read_parts : FnScope N_read_parts ["cursor", "word", "room"] (defScope s_read_parts) := ⟨rfl, rfl, rfl, by decide +kernel, rfl, by decide +kernel, by decide +kernel⟩
abbrev s_read_expression : Stmt := (topS 17)
abbrev N_read_expression : List Str := ["cursor", "room", "word"]
theorem sc_read_expression : FnScope N_read_expression ["cursor", "room"] (defScope s_read_expression) := ⟨rfl, rfl, rfl, by decide +kernel, rfl, by decide +kernel, by decide +kernel⟩
abbrev s_expression_words : Stmt := (topS 20)
abbrev N_expression_words : List Str := ["expression", "kind", "words", "parts", "part"]
theorem sc_expression_words : FnScope N_expression_words ["expression"] (defScope s_expression_words) := ⟨rfl, rfl, rfl, by decide +kernel, rfl, by decide +kernel, by decide +kernel⟩
abbrev s_BlockReader_openings : Stmt := (inClass (topS 27) 2)
abbrev N_BlockReader_openings : List Str := ["self", "depth", "words"]
theorem sc_BlockReader_openings : FnScope N_BlockReader_openings ["self", "depth"] (defScope s_BlockReader_openings) := ⟨rfl, rfl, rfl, by decide +kernel, rfl, by decide +kernel, by decide +kernel⟩
abbrev s_BlockReader_read_choice : Stmt := (inClass (topS 27) 4)
abbrev N_BlockReader_read_choice : List Str := ["self", "word", "name", "number"]
theorem sc_BlockReader_read_choice : FnScope N_BlockReader_read_choice ["self", "word"] (defScope s_BlockReader_read_choice) := ⟨rfl, rfl, rfl, by decide +kernel, rfl, by decide +kernel, by decide +kernel⟩
abbrev s_BlockReader_read_branches : Stmt := (inClass (topS 27) 5)
abbrev N_BlockReader_read_branches : List Str := ["self", "word", "test", "depth", "cursor", "then", "other"]
theorem sc_BlockReader_read_branches : FnScope N_BlockReader_read_branches ["self", "word", "test", "depth"] (defScope s_BlockReader_read_branches) := ⟨rfl, rfl, rfl, by decide +kernel, rfl, by decide +kernel, by decide +kernel⟩
abbrev s_BlockReader_read_statement : Stmt := (inClass (topS 27) 3)
abbrev N_BlockReader_read_statement : List Str := ["self", "depth", "cursor", "word", "seat", "name"]
theorem sc_BlockReader_read_statement : FnScope N_BlockReader_read_statement ["self", "depth"] (defScope s_BlockReader_read_statement) := ⟨rfl, rfl, rfl, by decide +kernel, rfl, by decide +kernel, by decide +kernel⟩
abbrev s_BlockReader_read_block : Stmt := (inClass (topS 27) 1)
abbrev N_BlockReader_read_block : List Str := ["self", "depth", "block"]
theorem sc_BlockReader_read_block : FnScope N_BlockReader_read_block ["self", "depth"] (defScope s_BlockReader_read_block) := ⟨rfl, rfl, rfl, by decide +kernel, rfl, by decide +kernel, by decide +kernel⟩
abbrev s_branch_words : Stmt := (topS 30)
abbrev N_branch_words : List Str := ["statement", "words"]
theorem sc_branch_words : FnScope N_branch_words ["statement"] (defScope s_branch_words) := ⟨rfl, rfl, rfl, by decide +kernel, rfl, by decide +kernel, by decide +kernel⟩
abbrev s_statement_words : Stmt := (topS 29)
abbrev N_statement_words : List Str := ["statement", "kind"]
theorem sc_statement_words : FnScope N_statement_words ["statement"] (defScope s_statement_words) := ⟨rfl, rfl, rfl, by decide +kernel, rfl, by decide +kernel, by decide +kernel⟩
abbrev s_block_words : Stmt := (topS 28)
abbrev N_block_words : List Str := ["block", "words", "statement"]
theorem sc_block_words : FnScope N_block_words ["block"] (defScope s_block_words) := ⟨rfl, rfl, rfl, by decide +kernel, rfl, by decide +kernel, by decide +kernel⟩
abbrev s_Game_eq : Stmt := (inClass (topS 35) 1)
abbrev N_Game_eq : List Str := ["self", "other"]
theorem sc_Game_eq : FnScope N_Game_eq ["self", "other"] (defScope s_Game_eq) := ⟨rfl, rfl, rfl, by decide +kernel, rfl, by decide +kernel, by decide +kernel⟩
abbrev s_names : Stmt := (topS 37)
abbrev N_names : List Str := ["pairs", "pair"]
theorem sc_names : FnScope N_names ["pairs"] (defScope s_names) := ⟨rfl, rfl, rfl, by decide +kernel, rfl, by decide +kernel, by decide +kernel⟩
abbrev s_read_options : Stmt := (topS 38)
abbrev N_read_options : List Str := ["cursor", "options", "name"]
theorem sc_read_options : FnScope N_read_options ["cursor"] (defScope s_read_options) := ⟨rfl, rfl, rfl, by decide +kernel, rfl, by decide +kernel, by decide +kernel⟩
abbrev s_read_variables : Stmt := (topS 39)
abbrev N_read_variables : List Str := ["cursor", "variables", "name"]
theorem sc_read_variables : FnScope N_read_variables ["cursor"] (defScope s_read_variables) := ⟨rfl, rfl, rfl, by decide +kernel, rfl, by decide +kernel, by decide +kernel⟩
abbrev s_read_rounds : Stmt := (topS 40)
abbrev N_read_rounds : List Str := ["cursor", "rounds", "reader", "name"]
theorem sc_read_rounds : FnScope N_read_rounds ["cursor"] (defScope s_read_rounds) := ⟨rfl, rfl, rfl, by decide +kernel, rfl, by decide +kernel, by decide +kernel⟩
abbrev s_read_game : Stmt := (topS 36)
abbrev N_read_game : List Str := ["text", "words", "head", "options", "variables", "cursor", "rounds"]
theorem sc_read_game : FnScope N_read_game ["text"] (defScope s_read_game) := ⟨rfl, rfl, rfl, by decide +kernel, rfl, by decide +kernel, by decide +kernel⟩
abbrev s_pieces_of : Stmt := (topS 41)
abbrev N_pieces_of : List Str := ["game", "pieces", "name", "on", "size", "block"]
theorem sc_pieces_of : FnScope N_pieces_of ["game"] (defScope s_pieces_of) := ⟨rfl, rfl, rfl, by decide +kernel, rfl, by decide +kernel, by decide +kernel⟩
abbrev s_game_text : Stmt := (topS 42)
abbrev N_game_text : List Str := ["game"]
theorem sc_game_text : FnScope N_game_text ["game"] (defScope s_game_text) := ⟨rfl, rfl, rfl, by decide +kernel, rfl, by decide +kernel, by decide +kernel⟩
abbrev s_law_pool : Stmt := (topS 44)
abbrev N_law_pool : List Str := ["script", "budget"]
theorem sc_law_pool : FnScope N_law_pool ["script", "budget"] (defScope s_law_pool) := ⟨rfl, rfl, rfl, by decide +kernel, rfl, by decide +kernel, by decide +kernel⟩
abbrev s_law_draw : Stmt := (topS 45)
abbrev N_law_draw : List Str := ["pool", "size", "cell", "value"]
theorem sc_law_draw : FnScope N_law_draw ["pool", "size"] (defScope s_law_draw) := ⟨rfl, rfl, rfl, by decide +kernel, rfl, by decide +kernel, by decide +kernel⟩
abbrev s_law_same : Stmt := (topS 49)
abbrev N_law_same : List Str := ["actual", "due", "k"]
theorem sc_law_same : FnScope N_law_same ["actual", "due"] (defScope s_law_same) := ⟨rfl, rfl, rfl, by decide +kernel, rfl, by decide +kernel, by decide +kernel⟩
abbrev s_law_read : Stmt := (topS 50)
abbrev N_law_read : List Str := ["text", "game", "e"]
theorem sc_law_read : FnScope N_law_read ["text"] (defScope s_law_read) := ⟨rfl, rfl, rfl, by decide +kernel, rfl, by decide +kernel, by decide +kernel⟩
abbrev s_law_many : Stmt := (topS 51)
abbrev N_law_many : List Str := ["pool", "word", "rest", "most", "count", "words", "k"]
theorem sc_law_many : FnScope N_law_many ["pool", "word", "rest", "most"] (defScope s_law_many) := ⟨rfl, rfl, rfl, by decide +kernel, rfl, by decide +kernel, by decide +kernel⟩
abbrev s_law_branchings : Stmt := (topS 52)
abbrev N_law_branchings : List Str := ["pool", "words", "count", "k"]
theorem sc_law_branchings : FnScope N_law_branchings ["pool"] (defScope s_law_branchings) := ⟨rfl, rfl, rfl, by decide +kernel, rfl, by decide +kernel, by decide +kernel⟩
abbrev s_law_deep : Stmt := (topS 53)
abbrev N_law_deep : List Str := ["pool", "words", "count", "k"]
theorem sc_law_deep : FnScope N_law_deep ["pool"] (defScope s_law_deep) := ⟨rfl, rfl, rfl, by decide +kernel, rfl, by decide +kernel, by decide +kernel⟩
abbrev s_law_deep_expression : Stmt := (topS 54)
abbrev N_law_deep_expression : List Str := ["pool", "words", "count", "sign"]
theorem sc_law_deep_expression : FnScope N_law_deep_expression ["pool"] (defScope s_law_deep_expression) := ⟨rfl, rfl, rfl, by decide +kernel, rfl, by decide +kernel, by decide +kernel⟩
abbrev s_law_number_words : Stmt := (topS 55)
abbrev N_law_number_words : List Str := ["pool", "kind", "bound", "number", "wrong", "words"]
theorem sc_law_number_words : FnScope N_law_number_words ["pool"] (defScope s_law_number_words) := ⟨rfl, rfl, rfl, by decide +kernel, rfl, by decide +kernel, by decide +kernel⟩
abbrev s_law_else : Stmt := (topS 56)
abbrev N_law_else : List Str := ["pool", "word", "before", "count"]
theorem sc_law_else : FnScope N_law_else ["pool"] (defScope s_law_else) := ⟨rfl, rfl, rfl, by decide +kernel, rfl, by decide +kernel, by decide +kernel⟩
abbrev s_law_text : Stmt := (topS 57)
abbrev N_law_text : List Str := ["pool", "kind", "size", "letter"]
theorem sc_law_text : FnScope N_law_text ["pool"] (defScope s_law_text) := ⟨rfl, rfl, rfl, by decide +kernel, rfl, by decide +kernel, by decide +kernel⟩
abbrev s_law : Stmt := (topS 58)
abbrev N_law : List Str := ["script", "words", "at", "wrong", "text", "due"]
theorem sc_law : FnScope N_law ["script"] (defScope s_law) := ⟨rfl, rfl, rfl, by decide +kernel, rfl, by decide +kernel, by decide +kernel⟩
abbrev s_BadText_init : Stmt := (inClass (topS 2) 0)
abbrev N_BadText_init : List Str := ["self", "at"]
def spLaw (K : PySem.W.Frag) : Sp := fun vs H Q _ => ∃ (a : Addr) (ns : List Int), vs = [.ref a] ∧ SqL K H a (ns.map V.int) ∧ ns.length ≤ 63 ∧ ∀ H', Q (.bl true) H'
def cell (ns : List Int) (k : Int) : Int := ns.getD k.toNat 0
theorem same_upd {H : Hp} {p : Addr} {o : HO} (h : H p = none) : Same H (upd H p o) := fun b x e => by
  rw [upd_ne (ne_of_none e h)]
  exact e
theorem cut_from (xs : List V) (k : Nat) : cutV xs (some (k : Int)) none = xs.drop k := by
  unfold cutV
  rw [HT.sIx_nat, HT.sIx_none]
  by_cases h : k ≤ xs.length
  · rw [Nat.min_eq_left h]
    exact List.take_of_length_le (by rw [List.length_drop]; omega)
  · rw [Nat.min_eq_right (by omega), List.drop_eq_nil_of_le (by omega), List.drop_eq_nil_of_le (by omega)]
    simp
theorem cut_to (xs : List V) (k : Nat) : cutV xs none (some (k : Int)) = xs.take k := by
  unfold cutV
  rw [HT.sIx_nat, HT.sIx_none, List.drop_zero, Nat.sub_zero]
  by_cases h : k ≤ xs.length
  · rw [Nat.min_eq_left h]
  · rw [Nat.min_eq_right (by omega), List.take_of_length_le (Nat.le_refl _), List.take_of_length_le (by omega)]
theorem cut_to' (xs : List V) (k : Int) (h : 0 ≤ k) : cutV xs none (some k) = xs.take k.toNat := by
  obtain ⟨m, rfl⟩ := Int.eq_ofNat_of_zero_le h
  exact cut_to xs m
theorem cut_from' (xs : List V) (k : Int) (h : 0 ≤ k) : cutV xs (some k) none = xs.drop k.toNat := by
  obtain ⟨m, rfl⟩ := Int.eq_ofNat_of_zero_le h
  exact cut_from xs m
theorem small_le {n : Nat} (h : n ≤ 1000) : n ≤ sizeLine := Nat.le_of_lt (small1000 h)
theorem at_ofG {α : Type} {xs : List α} {z : Int} {j : Nat} {v : α} (e : z = (j : Int)) (h : xs[j]? = some v) : atI xs z = some v := by
  rw [e]
  exact atI_nat h
theorem int_of_map {ns : List Int} {i : Nat} {y : V} (hi : (ns.map V.int)[i]? = some y) : ∃ z, ns[i]? = some z ∧ y = V.int z := by
  rw [List.getElem?_map] at hi
  cases e : ns[i]? with
  | none => rw [e] at hi; cases hi
  | some u => rw [e] at hi; exact ⟨u, rfl, (Option.some.inj hi).symm⟩
theorem dp_ints {K : PySem.W.Frag} {H : Hp} : ∀ ns : List Int, DpAll K H (ns.map V.int) (ns.map PyData.int)
  | [] => .nil
  | n :: r => .cons (.int n) (dp_ints r)
theorem lay_ints : ∀ ns : List Int, PyData.canLayAll0 (ns.map PyData.int) = true ∧ PyData.depthAll (ns.map PyData.int) = 0
  | [] => ⟨by simp [PyData.canLayAll0], by simp [PyData.depthAll]⟩
  | n :: r => by
    have ih := lay_ints r
    exact ⟨by simp [PyData.canLayAll0, PyData.canLay0, ih.1], by simp [PyData.depthAll, PyData.depth, ih.2]⟩
theorem shaped_ints (ns : List Int) : SeqAt.shaped (.list (ns.map PyData.int)) = true := by
  have h := lay_ints ns
  unfold SeqAt.shaped
  simp [PyData.canLay0, PyData.depth, h.1, h.2]
theorem eqv_ints (ns : List Int) : PyData.eqv (.list (ns.map PyData.int)) (.list (ns.map PyData.int)) = true :=
  SeqAt.eqv_refl _ (by rw [PyData.canLay0]; exact (lay_ints ns).1)

mutual
/-- data that never changes: scalars and tracked tuples of such -/
inductive Im (H : Hp) : V → PyData → Prop
  | non : Im H .non .none
  | bl (b : Bool) : Im H (.bl b) (.bool b)
  | int (i : Int) : Im H (.int i) (.int i)
  | str (x : Str) : Im H (.str x) (.str x)
  | tup {a : Addr} {xs : List V} {ds : List PyData} : H a = some (.tup xs) → ImAll H xs ds → Im H (.ref a) (.tuple ds)
inductive ImAll (H : Hp) : List V → List PyData → Prop
  | nil : ImAll H [] []
  | cons {v : V} {vs : List V} {d : PyData} {ds : List PyData} : Im H v d → ImAll H vs ds → ImAll H (v :: vs) (d :: ds)
end
/-- the tracked tuples stay -/
def KeepT (H H' : Hp) : Prop := ∀ b xs, H b = some (.tup xs) → H' b = some (.tup xs)
theorem KeepT.refl (H : Hp) : KeepT H H := fun _ _ h => h
theorem KeepT.trans {H H1 H2 : Hp} (a : KeepT H H1) (b : KeepT H1 H2) : KeepT H H2 := fun c x h => b c x (a c x h)
theorem keepT_of {H H' : Hp} (s : Same H H') : KeepT H H' := fun b xs h => s b _ h
theorem keepT_lst {H : Hp} {p : Addr} {xs ys : List V} (h : H p = some (.lst xs)) : KeepT H (upd H p (.lst ys)) := fun b zs e => by
  have n : b ≠ p := fun q => by rw [q, h] at e; cases e
  rw [upd_ne n]
  exact e
mutual
theorem Im.keep {H H' : Hp} (k : KeepT H H') : ∀ {v : V} {d : PyData}, Im H v d → Im H' v d
  | _, _, .non => .non
  | _, _, .bl b => .bl b
  | _, _, .int i => .int i
  | _, _, .str x => .str x
  | _, _, .tup h a => .tup (k _ _ h) (ImAll.keep k a)
theorem ImAll.keep {H H' : Hp} (k : KeepT H H') : ∀ {vs : List V} {ds : List PyData}, ImAll H vs ds → ImAll H' vs ds
  | _, _, .nil => .nil
  | _, _, .cons h a => .cons (Im.keep k h) (ImAll.keep k a)
end
mutual
theorem Im.dp {K : PySem.W.Frag} {H : Hp} : ∀ {v : V} {d : PyData}, Im H v d → Dp K H v d
  | _, _, .non => .non
  | _, _, .bl b => .bl b
  | _, _, .int i => .int i
  | _, _, .str x => .str x
  | _, _, .tup h a => .tup (SqT.of h) (ImAll.dp a)
theorem ImAll.dp {K : PySem.W.Frag} {H : Hp} : ∀ {vs : List V} {ds : List PyData}, ImAll H vs ds → DpAll K H vs ds
  | _, _, .nil => .nil
  | _, _, .cons h a => .cons (Im.dp h) (ImAll.dp a)
end
theorem ImAll.len {H : Hp} : ∀ {vs : List V} {ds : List PyData}, ImAll H vs ds → vs.length = ds.length
  | _, _, .nil => rfl
  | _, _, .cons _ a => by rw [List.length_cons, List.length_cons, ImAll.len a]
theorem ImAll.append {H : Hp} : ∀ {vs us : List V} {ds es : List PyData}, ImAll H vs ds → ImAll H us es → ImAll H (vs ++ us) (ds ++ es)
  | _, _, _, _, .nil, b => b
  | _, _, _, _, .cons h a, b => .cons h (ImAll.append a b)
theorem ImAll.get {H : Hp} : ∀ {vs : List V} {ds : List PyData} {i : Nat} {d : PyData}, ImAll H vs ds → ds[i]? = some d → ∃ v, vs[i]? = some v ∧ Im H v d
  | _, _, 0, _, .cons h _, e => by
    cases e
    exact ⟨_, rfl, h⟩
  | _, _, i + 1, _, .cons _ a, e => by
    rw [List.getElem?_cons_succ] at e
    rw [List.getElem?_cons_succ]
    exact ImAll.get a e
theorem ImAll.take {H : Hp} : ∀ {vs : List V} {ds : List PyData} (i : Nat), ImAll H vs ds → ImAll H (vs.take i) (ds.take i)
  | _, _, 0, _ => by
    rw [List.take_zero, List.take_zero]
    exact .nil
  | _, _, _ + 1, .nil => by
    rw [List.take_nil, List.take_nil]
    exact .nil
  | _, _, i + 1, .cons h a => .cons h (ImAll.take i a)
theorem ImAll.snoc {H : Hp} {vs : List V} {ds : List PyData} {v : V} {d : PyData} (a : ImAll H vs ds) (h : Im H v d) : ImAll H (vs ++ [v]) (ds ++ [d]) := a.append (.cons h .nil)
theorem ImAll.rev {H : Hp} : ∀ {vs : List V} {ds : List PyData}, ImAll H vs ds → ImAll H vs.reverse ds.reverse
  | _, _, .nil => .nil
  | _, _, .cons h a => by
    rw [List.reverse_cons, List.reverse_cons]
    exact (ImAll.rev a).snoc h
mutual
/-- all sequences are short -/
def wide : PyData → Bool
  | .list xs => decide (xs.length ≤ 1000000) && wideAll xs
  | .tuple xs => decide (xs.length ≤ 1000000) && wideAll xs
  | .none => true
  | .bool _ => true
  | .int _ => true
  | .str _ => true
  | .dict _ => false
def wideAll : List PyData → Bool
  | [] => true
  | x :: r => wide x && wideAll r
end
/-- what a comparison asks of data: sizes -/
def Lay (n : Nat) (d : PyData) : Prop := d.canLay0 = true ∧ d.depth ≤ n ∧ wide d = true
theorem lay_all : ∀ {n : Nat} {ds : List PyData}, (∀ d ∈ ds, Lay n d) → PyData.canLayAll0 ds = true ∧ PyData.depthAll ds ≤ n ∧ wideAll ds = true
  | n, [], _ => ⟨by simp [PyData.canLayAll0], by simp [PyData.depthAll], by simp [wideAll]⟩
  | n, d :: r, h => by
    have h1 := h d List.mem_cons_self
    have h2 := lay_all fun e he => h e (List.mem_cons_of_mem d he)
    refine ⟨by simp [PyData.canLayAll0, h1.1, h2.1], ?_, by simp [wideAll, h1.2.2, h2.2.2]⟩
    simp only [PyData.depthAll]
    exact Nat.max_le.mpr ⟨h1.2.1, h2.2.1⟩
theorem lay_tuple {n : Nat} {ds : List PyData} (hl : ds.length ≤ 1000000) (h : ∀ d ∈ ds, Lay n d) : Lay (n + 1) (.tuple ds) := by
  have q := lay_all h
  exact ⟨by simp [PyData.canLay0, q.1], by simp only [PyData.depth]; omega, by simp only [wide, q.2.2, decide_eq_true hl]; rfl⟩
theorem lay_list {n : Nat} {ds : List PyData} (hl : ds.length ≤ 1000000) (h : ∀ d ∈ ds, Lay n d) : Lay (n + 1) (.list ds) := by
  have q := lay_all h
  exact ⟨by simp [PyData.canLay0, q.1], by simp only [PyData.depth]; omega, by simp only [wide, q.2.2, decide_eq_true hl]; rfl⟩
theorem Lay.mono {n m : Nat} {d : PyData} (h : Lay n d) (l : n ≤ m) : Lay m d := ⟨h.1, Nat.le_trans h.2.1 l, h.2.2⟩
theorem Lay.shaped {n : Nat} {d : PyData} (h : Lay n d) (l : n ≤ 64) : SeqAt.shaped d = true := by
  unfold SeqAt.shaped
  rw [h.1, decide_eq_true (Nat.le_trans h.2.1 l)]
  rfl
theorem Lay.refl {n : Nat} {d : PyData} (h : Lay n d) : PyData.eqv d d = true := SeqAt.eqv_refl _ h.1
theorem lay_int (i : Int) : Lay 0 (.int i) := ⟨by simp [PyData.canLay0], by simp [PyData.depth], by simp [wide]⟩
theorem lay_str {x : Str} (h : PyData.strOk x = true) : Lay 0 (.str x) := ⟨by simp [PyData.canLay0, h], by simp [PyData.depth], by simp [wide]⟩
theorem lay_none : Lay 0 .none := ⟨by simp [PyData.canLay0], by simp [PyData.depth], by simp [wide]⟩
theorem lay_bool (b : Bool) : Lay 0 (.bool b) := ⟨by simp [PyData.canLay0], by simp [PyData.depth], by simp [wide]⟩
theorem wide_get {ds : List PyData} {i : Nat} {d : PyData} : wideAll ds = true → ds[i]? = some d → wide d = true := by
  induction ds generalizing i with
  | nil => intro _ h; simp at h
  | cons x r ih =>
    intro hw h
    simp only [wideAll, Bool.and_eq_true] at hw
    cases i with
    | zero => cases h; exact hw.1
    | succ i => exact ih (i := i) hw.2 (by rw [List.getElem?_cons_succ] at h; exact h)
/-- view + (event,) -/
theorem cat_ev {K : PySem.W.Frag} {H : Hp} {v t u : Addr} {xs : List V} {ds : List PyData} {e : PyData} {Q : VK} (hv : H v = some (.tup xs)) (hA : ImAll H xs ds) (he : Im H (.ref t) e) (hu : H u = some (.tup [.ref t])) (hz : xs.length ≤ 900)
    (k : ∀ (p : Addr) (H' : Hp), Same H H' → Im H' (.ref p) (.tuple (ds ++ [e])) → Q (.ref p) H') : rCatA K (.ref v) (.ref u) H Q := by
  refine ⟨v, u, xs, [.ref t], rfl, rfl, SqT.of hv, SqT.of hu, by show xs.length + 1 ≤ sizeLine; exact small_le (by omega), fun z => ?_, fun _ z => (by cases z), fun _ _ p hp => ?_⟩
  · subst z
    cases hA
    exact k u H (Same.refl H) (.tup hu (.cons he .nil))
  · exact k p _ (same_upd hp) (.tup upd_same ((hA.snoc he).keep (keepT_of (same_upd hp))))
theorem upd2_same {H : Hp} {t u : Addr} {o o' : HO} (ht : H t = none) (hu : upd H t o u = none) : Same H (upd (upd H t o) u o') := (same_upd ht).trans (same_upd hu)


/-- the drawing pool at p: the script's cells at c, five numbers -/
def Pool (H : Hp) (p c : Addr) (b : Int) : Prop := ∃ (ns : List Int) (i r s t : Int), H p = some (.lst [.ref c, .int i, .int r, .int s, .int t, .int b]) ∧ H c = some (.lst (ns.map V.int)) ∧ 0 ≤ i ∧ c ≠ p
def But (p : Addr) (H H' : Hp) : Prop := ∀ b o, b ≠ p → H b = some o → H' b = some o
theorem But.refl (p : Addr) (H : Hp) : But p H H := fun _ _ _ h => h
theorem But.trans {p : Addr} {H H1 H2 : Hp} (a : But p H H1) (b : But p H1 H2) : But p H H2 := fun c o n h => b c o n (a c o n h)
theorem but_of {p : Addr} {H H' : Hp} (s : Same H H') : But p H H' := fun b o _ h => s b o h
theorem but_upd {p : Addr} {H : Hp} {o : HO} : But p H (upd H p o) := fun b x n e => by rw [upd_ne n]; exact e
/-- what stood before the list at p was made stays -/
theorem But.same {p : Addr} {H0 H H' : Hp} (b : But p H H') (s : Same H0 H) (n : H0 p = none) : Same H0 H' := fun c o e => b c o (ne_of_none e n) (s c o e)
theorem But.keepT {p : Addr} {xs : List V} {H H' : Hp} (b : But p H H') (h : H p = some (.lst xs)) : KeepT H H' := fun c ys e => b c _ (fun z => by rw [z, h] at e; cases e) e
theorem Pool.keepT {p c : Addr} {b : Int} {H H' : Hp} (h : Pool H p c b) (k : But p H H') : KeepT H H' := by
  obtain ⟨ns, i, r, s, t, hp, _⟩ := h
  exact k.keepT hp
theorem Pool.same {p c : Addr} {b : Int} {H H' : Hp} (h : Pool H p c b) (k : Same H H') : Pool H' p c b := by
  obtain ⟨ns, i, r, s, t, hp, hc, h0, n⟩ := h
  exact ⟨ns, i, r, s, t, k _ _ hp, k _ _ hc, h0, n⟩
theorem Pool.upd {p c q : Addr} {b : Int} {H : Hp} (h : Pool H p c b) (n1 : q ≠ p) (n2 : q ≠ c) (o : HO) : Pool (L2.upd H q o) p c b := by
  obtain ⟨ns, i, r, s, t, hp, hc, h0, n⟩ := h
  exact ⟨ns, i, r, s, t, by rw [upd_ne n1.symm]; exact hp, by rw [upd_ne n2.symm]; exact hc, h0, n⟩
theorem Pool.ne2 {p c q : Addr} {b : Int} {H : Hp} (h : Pool H p c b) (e : H q = none) : q ≠ c := by
  obtain ⟨ns, i, r, s, t, hp, hc, _⟩ := h
  exact fun z => by rw [z, hc] at e; cases e
theorem Pool.ne {p c q : Addr} {b : Int} {H : Hp} (h : Pool H p c b) (e : H q = none) : q ≠ p := by
  obtain ⟨ns, i, r, s, t, hp, _⟩ := h
  exact fun z => by rw [z, hp] at e; cases e
/-- data of any make: tuples and lists that are tracked -/
inductive Da (H : Hp) : V → PyData → Prop
  | non : Da H .non .none
  | bl (b : Bool) : Da H (.bl b) (.bool b)
  | int (i : Int) : Da H (.int i) (.int i)
  | str (x : Str) : Da H (.str x) (.str x)
  | tup {a : Addr} {xs : List V} {ds : List PyData} : H a = some (.tup xs) → xs.length = ds.length → (∀ (i : Nat) v d, xs[i]? = some v → ds[i]? = some d → Da H v d) → Da H (.ref a) (.tuple ds)
  | lst {a : Addr} {xs : List V} {ds : List PyData} : H a = some (.lst xs) → xs.length = ds.length → (∀ (i : Nat) v d, xs[i]? = some v → ds[i]? = some d → Da H v d) → Da H (.ref a) (.list ds)
mutual
theorem Im.da {H : Hp} : ∀ {v : V} {d : PyData}, Im H v d → Da H v d
  | _, _, .non => .non
  | _, _, .bl b => .bl b
  | _, _, .int i => .int i
  | _, _, .str x => .str x
  | _, _, .tup h a => .tup h a.len (ImAll.da a)
theorem ImAll.da {H : Hp} : ∀ {vs : List V} {ds : List PyData}, ImAll H vs ds → ∀ (i : Nat) v d, vs[i]? = some v → ds[i]? = some d → Da H v d
  | _, _, .nil => fun i v d h _ => by simp at h
  | _, _, .cons h a => fun i v d h1 h2 => match i, h1, h2 with
    | 0, h1, h2 => by
      cases h1
      cases h2
      exact Im.da h
    | i + 1, h1, h2 => ImAll.da a i v d (by rw [List.getElem?_cons_succ] at h1; exact h1) (by rw [List.getElem?_cons_succ] at h2; exact h2)
end
theorem Da.strs {H : Hp} {a : Addr} {ys : List Str} (h : H a = some (.lst (ys.map V.str))) : Da H (.ref a) (.list (ys.map PyData.str)) := by
  refine .lst h (by rw [List.length_map, List.length_map]) fun i v d h1 h2 => ?_
  rw [List.getElem?_map] at h1 h2
  cases e : ys[i]? with
  | none => rw [e] at h1; cases h1
  | some y =>
    rw [e] at h1 h2
    cases h1
    cases h2
    exact .str y
theorem depth_get {ds : List PyData} {i : Nat} {d : PyData} : ds[i]? = some d → d.depth ≤ PyData.depthAll ds := by
  induction ds generalizing i with
  | nil => intro h; simp at h
  | cons x r ih =>
    intro h
    simp only [PyData.depthAll]
    cases i with
    | zero => cases h; exact Nat.le_max_left _ _
    | succ i => exact Nat.le_trans (ih (i := i) (by rw [List.getElem?_cons_succ] at h; exact h)) (Nat.le_max_right _ _)

/-- all signs below 128 -/
def Asc (x : Str) : Prop := ∀ c ∈ x.cps.toList, c < 128
def keyL : List Str := ["option", "on", "off", "var", "round", "end", "set", "if", "else", "when", "draw", "first", "second", "show", "both", "pay", "take", "pick", "mod", "player", "keep", "lot", "while", "answer", "view", "long"]
def keyV : List V := keyL.map V.str
theorem key_flat : keyV.all flatV = true := by decide +kernel
def loL : List Nat := List.range' 97 26
def ldL : List Nat := List.range' 97 26 ++ List.range' 48 10
def lettersS : Str := "abcdefghijklmnopqrstuvwxyz"
def ldS : Str := "abcdefghijklmnopqrstuvwxyz0123456789"
theorem letters_eq : lettersS.cps.toList = loL := by decide +kernel
theorem ld_eq : ldS.cps.toList = ldL := by decide +kernel
theorem lo_mem (c : Nat) : c ∈ loL ↔ 97 ≤ c ∧ c ≤ 122 := by
  unfold loL
  rw [List.mem_range'_1]
  omega
theorem ld_mem (c : Nat) : c ∈ ldL ↔ (97 ≤ c ∧ c ≤ 122) ∨ (48 ≤ c ∧ c ≤ 57) := by
  unfold ldL
  rw [List.mem_append, List.mem_range'_1, List.mem_range'_1]
  omega
def othersS : Str := "ABCDEFGHIJKLMNOPQRSTUVWXYZ !\"#$&'()*+,-./:;<=>?@\x5b\\]^_`{|}~\n\t"
def okAt (k c : Nat) : Prop := (97 ≤ c ∧ c ≤ 122) ∨ (0 < k ∧ 48 ≤ c ∧ c ≤ 57)
/-- a name -/
def NameP (x : Str) : Prop := 1 ≤ x.length ∧ x.length ≤ 12 ∧ inV (.str x) keyV = false ∧ ∀ k c, x.cps.toList[k]? = some c → okAt k c
/-- one sign against one sign -/
theorem lt1 (a b : Nat) : ((⟨#[a]⟩ : Str).cps.toList < (⟨#[b]⟩ : Str).cps.toList) ↔ a < b := by
  show [a] < [b] ↔ a < b
  constructor
  · intro h
    rcases List.cons_lt_cons_iff.mp h with h | ⟨_, h⟩
    · exact h
    · exact absurd h (by simp)
  · intro h
    exact List.cons_lt_cons_iff.mpr (.inl h)
/-- a number's word and what it is -/
def NumR (x : Str) (r : V) : Prop := (∃ n : Nat, n ≤ 65535 ∧ x.cps.toList = TL.numL n ∧ r = .int n) ∨ ((∀ n : Nat, n ≤ 65535 → x.cps.toList ≠ TL.numL n) ∧ r = .non)
theorem num_same {x : Str} {r q : V} (h : NumR x r) (g : NumR x q) : r = q := by
  rcases h with ⟨n, hn, e, rfl⟩ | ⟨h, rfl⟩
  · rcases g with ⟨m, hm, e2, rfl⟩ | ⟨g, rfl⟩
    · rw [TL.numL_inj (e.symm.trans e2)]
    · exact absurd e (g n hn)
  · rcases g with ⟨m, hm, e2, rfl⟩ | ⟨g, rfl⟩
    · exact absurd e2 (h m hm)
    · rfl
theorem num_da {x : Str} {r : V} {H : Hp} (h : NumR x r) : ∃ d : PyData, Da H r d ∧ d.depth < 8 ∧ wide d = true := by
  rcases h with ⟨n, hn, e, rfl⟩ | ⟨h, rfl⟩
  · exact ⟨.int n, .int _, by simp [PyData.depth], by simp [wide]⟩
  · exact ⟨.none, .non, by simp [PyData.depth], by simp [wide]⟩
theorem asc_isascii {x : Str} (h : Asc x) : Txt.isascii x = true := by
  unfold Txt.isascii
  rw [Array.all_eq_true_iff_forall_mem]
  intro c m
  exact decide_eq_true (h c (Array.mem_toList_iff.mpr m))
theorem digit128 : ∀ c, c < 128 → PySem.Unicode.isDigit c = (decide (48 ≤ c) && decide (c ≤ 57)) := by decide +kernel
theorem isdigit_iff {x : Str} (h : Asc x) : Txt.isdigit x = true ↔ (NumText.AllDigits x.cps.toList ∧ x.cps.toList ≠ []) := by
  unfold Txt.isdigit
  rw [Bool.and_eq_true, Array.all_eq_true_iff_forall_mem, decide_eq_true_eq]
  constructor
  · rintro ⟨h1, h2⟩
    refine ⟨fun c m => ?_, fun z => ?_⟩
    · have h3 := h2 c (Array.mem_toList_iff.mp m)
      rw [digit128 c (h c m), Bool.and_eq_true, decide_eq_true_eq, decide_eq_true_eq] at h3
      exact h3
    · have h4 : 0 < x.cps.toList.length := h1
      rw [z] at h4
      exact Nat.lt_irrefl 0 h4
  · rintro ⟨h1, h2⟩
    refine ⟨List.length_pos_iff.mpr h2, fun c m => ?_⟩
    have m' := Array.mem_toList_iff.mpr m
    have h3 := h1 c m'
    rw [digit128 c (h c m'), Bool.and_eq_true, decide_eq_true_eq, decide_eq_true_eq]
    exact h3
theorem str_num {x : Str} {n : Nat} (e : x.cps.toList = TL.numL n) : (Str.ofString (toString ((n : Nat) : Int))) = x := ext_toList ((TL.tl_num n).trans e.symm)
theorem num_str {x : Str} {n : Nat} (e : V.str (Str.ofString (toString ((n : Nat) : Int))) = V.str x) : x.cps.toList = TL.numL n := by
  rw [← V.str.inj e]
  exact TL.tl_num n
theorem dv_snoc (l : List Nat) (c : Nat) : NumText.digitsVal (l ++ [c]) = NumText.digitsVal l * 10 + (c - 48) := by
  unfold NumText.digitsVal
  rw [List.foldl_append]
  rfl
theorem name_iff {l : List Nat} {c0 : Nat} (h0 : l[0]? = some c0) : (c0 ∈ loL ∧ ∀ c ∈ l, c ∈ ldL) ↔ ∀ (k : Nat) c, l[k]? = some c → okAt k c := by
  constructor
  · rintro ⟨h1, h2⟩ k c e
    cases k with
    | zero =>
      rw [h0] at e
      cases e
      exact .inl ((lo_mem _).mp h1)
    | succ k =>
      rcases (ld_mem c).mp (h2 c (List.mem_of_getElem? e)) with h | h
      · exact .inl h
      · exact .inr ⟨Nat.succ_pos _, h⟩
  · intro h
    refine ⟨(lo_mem _).mpr ?_, fun c m => (ld_mem c).mpr ?_⟩
    · rcases h 0 c0 h0 with h | h
      · exact h
      · exact absurd h.1 (Nat.lt_irrefl 0)
    · obtain ⟨k, e⟩ := List.getElem?_of_mem m
      rcases h k c e with h | h
      · exact .inl h
      · exact .inr h.2
theorem all_iff {l : List Nat} {m : List Nat} : ((l.map fun c => decide (c ∈ m)).all id = true) ↔ ∀ c ∈ l, c ∈ m := by
  rw [List.all_eq_true]
  constructor
  · intro h c hc
    exact of_decide_eq_true (h _ (List.mem_map.mpr ⟨c, hc, rfl⟩))
  · intro h b hb
    obtain ⟨c, hc, rfl⟩ := List.mem_map.mp hb
    exact decide_eq_true (h c hc)
theorem step_iff {l : List Nat} {i c : Nat} (gc : l[i]? = some c) : (∀ (k : Nat) d, k < i + 1 → l[k]? = some d → okAt k d) ↔ (∀ (k : Nat) d, k < i → l[k]? = some d → okAt k d) ∧ okAt i c := by
  constructor
  · intro h
    exact ⟨fun k d hk => h k d (Nat.lt_succ_of_lt hk), h i c (Nat.lt_succ_self i) gc⟩
  · rintro ⟨h1, h2⟩ k d hk e
    rcases Nat.lt_succ_iff_lt_or_eq.mp hk with h | rfl
    · exact h1 k d h e
    · rw [gc] at e
      cases e
      exact h2
theorem pick {ss : List Str} {r : Int} (h0 : 0 ≤ r) (h1 : r < (ss.length : Int)) : ∃ w, w ∈ ss ∧ atI (ss.map V.str) r = some (.str w) := by
  have hlt : r.toNat < ss.length := by omega
  refine ⟨ss[r.toNat], List.getElem_mem hlt, at_ofG (j := r.toNat) (by omega) ?_⟩
  rw [List.getElem?_map, List.getElem?_eq_getElem hlt]
  rfl
theorem pickS {z : Str} {r : Int} (h0 : 0 ≤ r) (h1 : r < (z.length : Int)) : ∃ c, c ∈ z.cps.toList ∧ atI z.cps.toList r = some c := by
  have hz : z.length = z.cps.toList.length := rfl
  have hlt : r.toNat < z.cps.toList.length := by omega
  exact ⟨z.cps.toList[r.toNat], List.getElem_mem hlt, at_ofG (j := r.toNat) (by omega) (List.getElem?_eq_getElem hlt)⟩
def ascB (n : Nat) (ss : List Str) : Bool := ss.all fun w => decide (w.length ≤ n) && w.cps.toList.all fun c => decide (c < 128)
theorem asc_of {n : Nat} {ss : List Str} (h : ascB n ss = true) {w : Str} (m : w ∈ ss) : Asc w ∧ w.length ≤ n := by
  have h1 := List.all_eq_true.mp h w m
  rw [Bool.and_eq_true, decide_eq_true_eq] at h1
  exact ⟨fun c hc => of_decide_eq_true (List.all_eq_true.mp h1.2 c hc), h1.1⟩
theorem app_list (a b : Str) : (a ++ b).cps.toList = a.cps.toList ++ b.cps.toList := by
  show (a.cps ++ b.cps).toList = _
  simp
theorem app_len (a b : Str) : (a ++ b).length = a.length + b.length := by
  show (a ++ b).cps.toList.length = a.cps.toList.length + b.cps.toList.length
  rw [app_list, List.length_append]
theorem app_asc {a b : Str} (h : Asc a) (g : Asc b) : Asc (a ++ b) := by
  intro c m
  rw [app_list] at m
  rcases List.mem_append.mp m with m | m
  · exact h c m
  · exact g c m
theorem one_asc {c : Nat} (h : c < 128) : Asc ⟨#[c]⟩ := by
  intro d m
  have m' : d ∈ [c] := m
  rw [List.mem_singleton.mp m']
  exact h
theorem cutS_asc {z : Str} (h : Asc z) (lo hi : Option Int) : Asc (cutS z lo hi) := by
  intro c m
  have m' : c ∈ (((z.cps.toList.drop (HT.sIx z.length 0 lo)).take (HT.sIx z.length z.length hi - HT.sIx z.length 0 lo)).toArray).toList := m
  rw [List.toList_toArray] at m'
  exact h c (List.mem_of_mem_drop (List.mem_of_mem_take m'))
theorem num_asc (n : Nat) (h : n < 10 ^ 6) : Asc (Str.ofString (toString ((n : Nat) : Int))) ∧ (Str.ofString (toString ((n : Nat) : Int))).length ≤ 6 := by
  constructor
  · intro c m
    have m' : c ∈ TL.numL n := by rw [← TL.tl_num n]; exact m
    have := TL.numL_digits n c m'
    omega
  · have e : (Str.ofString (toString ((n : Nat) : Int))).cps.toList = TL.numL n := TL.tl_num n
    show (Str.ofString (toString ((n : Nat) : Int))).cps.toList.length ≤ 6
    rw [e]
    exact TL.numL_len (by decide) h
theorem log_small {n : Nat} (h : n < 10 ^ 101) : ((n : Nat) : Int).natAbs.log2 < 1920 := by
  rw [Int.natAbs_natCast]
  have : n.log2 ≤ 1919 := PySem.W.mg_log (Nat.lt_of_lt_of_le h (by decide +kernel))
  omega
theorem key_split : Txt.split (("option on off var round end set if else when draw first second show both pay take pick mod player keep lot" : Str) ++ (" while answer view long" : Str)) (" " : Str) = keyL := by decide +kernel
theorem join_signs : ∀ cs : List Nat, (Txt.join ("" : Str) (cs.map fun x => (⟨#[x]⟩ : Str))).cps.toList = cs := by
  have h : ∀ cs : List Nat, (Str.join ("" : Str) (cs.map fun x => (⟨#[x]⟩ : Str))).cps.toList = cs := by
    intro cs
    induction cs with
    | nil => rfl
    | cons a r ih =>
      cases r with
      | nil => rfl
      | cons b r =>
        show (((⟨#[a]⟩ : Str) ++ ("" : Str)) ++ Str.join ("" : Str) ((b :: r).map fun x => (⟨#[x]⟩ : Str))).cps.toList = a :: b :: r
        have e : ((((⟨#[a]⟩ : Str) ++ ("" : Str)) ++ Str.join ("" : Str) ((b :: r).map fun x => (⟨#[x]⟩ : Str))).cps.toList) = a :: (Str.join ("" : Str) ((b :: r).map fun x => (⟨#[x]⟩ : Str))).cps.toList := by
          show ((#[a] ++ ("" : Str).cps) ++ (Str.join ("" : Str) ((b :: r).map fun x => (⟨#[x]⟩ : Str))).cps).toList = _
          rw [Array.toList_append, Array.toList_append]
          rfl
        rw [e, ih]
  intro cs
  show (Builtin.Str.glued _ _).cps.toList = cs
  rw [StrLaws.glued_eq_join]
  exact h cs
theorem sum_signs (cs : List Nat) : ((cs.map fun x => (⟨#[x]⟩ : Str)).map (·.length)).sum = cs.length := by
  rw [List.map_map]
  induction cs with
  | nil => rfl
  | cons y r ih =>
    rw [List.map_cons, List.sum_cons, ih, List.length_cons]
    show 1 + r.length = r.length + 1
    omega
theorem ge1 {a b : Nat} : ((!decide ((⟨#[a]⟩ : Str).cps.toList < (⟨#[b]⟩ : Str).cps.toList)) = true) ↔ b ≤ a := by
  rw [Bool.not_eq_true', decide_eq_false_iff_not, lt1]
  omega

/-! ### names that the law draws -/
def kwL : List Str := ["option", "on", "off", "var", "round", "end", "set", "if", "else", "when", "draw", "first", "second", "show", "both", "pay", "take", "pick", "mod", "player", "keep", "lot", "while", "answer", "view", "long"]
theorem kw_split : Txt.split (("option on off var round end set if else when draw first second show both pay take pick mod player keep lot" : Str) ++ (" while answer view long" : Str)) (" " : Str) = kwL := by decide +kernel
def LetC (c : Nat) : Prop := 97 ≤ c ∧ c ≤ 122
def NmC (c : Nat) : Prop := LetC c ∨ (48 ≤ c ∧ c ≤ 57)
def NmF (x : Str) : Prop := ∃ c r, x.cps.toList = c :: r ∧ LetC c ∧ (∀ d ∈ r, NmC d) ∧ r.length ≤ 11
/-- a name -/
def Nm (x : Str) : Prop := NmF x ∧ x ∉ kwL
theorem NmF.lt {x : Str} (h : NmF x) : ∀ c ∈ x.cps.toList, c < 128 := by
  obtain ⟨c, r, e, h1, h2, _⟩ := h
  intro d m
  rw [e] at m
  rcases List.mem_cons.mp m with rfl | m
  · have := h1.2
    omega
  · rcases h2 d m with h | h
    · have := h.2
      omega
    · omega
theorem NmF.ok {x : Str} (h : NmF x) : PyData.strOk x = true := by
  unfold PyData.strOk
  rw [Array.all_eq_true_iff_forall_mem]
  intro c m
  have := h.lt c (Array.mem_toList_iff.mpr m)
  simp
  omega
theorem NmF.len {x : Str} (h : NmF x) : x.length ≤ 12 := by
  obtain ⟨c, r, e, _, _, h3⟩ := h
  show x.cps.toList.length ≤ 12
  rw [e, List.length_cons]
  omega
theorem app_cps (a b : Str) : (a ++ b).cps.toList = a.cps.toList ++ b.cps.toList := by
  show (a.cps ++ b.cps).toList = _
  simp
def vS (k : Nat) : Str := ("v" : Str) ++ Str.ofString (toString ((k : Nat) : Int))
theorem vS_cps (k : Nat) : (vS k).cps.toList = 118 :: TL.numL k := by
  unfold vS
  have e : (Str.ofString (toString ((k : Nat) : Int))).cps.toList = TL.numL k := TL.tl_num k
  rw [app_cps, e]
  rfl
theorem vS_nm {k : Nat} (h : k < 20) : Nm (vS k) := by
  refine ⟨⟨118, TL.numL k, vS_cps k, ⟨by decide, by decide⟩, fun d m => .inr (TL.numL_digits k d m), ?_⟩, ?_⟩
  · have := TL.numL_len (n := k) (k := 2) (by decide) (by omega)
    omega
  · have : (List.range 20).all (fun k => decide (vS k ∉ kwL)) = true := by decide +kernel
    exact of_decide_eq_true (List.all_eq_true.mp this k (List.mem_range.mpr h))
theorem nodup_le {α : Type} [DecidableEq α] : ∀ {l ts : List α}, l.Nodup → (∀ x ∈ l, x ∈ ts) → l.length ≤ ts.length
  | [], _, _, _ => Nat.zero_le _
  | a :: r, ts, nd, h => by
    rw [List.nodup_cons] at nd
    have ih := nodup_le (l := r) (ts := ts.erase a) nd.2 fun x m => (List.mem_erase_of_ne (fun e => nd.1 (by rw [← e]; exact m))).mpr (h x (List.mem_cons_of_mem _ m))
    have ma := h a List.mem_cons_self
    rw [List.length_erase_of_mem ma] at ih
    have : 0 < ts.length := List.length_pos_of_mem ma
    rw [List.length_cons]
    omega
theorem vS_free {ts : List Str} (h : ts.length < 20) : ¬ ∀ k, k < 20 → vS k ∈ ts := fun z => by
  have nd : ((List.range 20).map vS).Nodup := by decide +kernel
  have := nodup_le nd fun x m => by
    obtain ⟨k, mk, rfl⟩ := List.mem_map.mp m
    exact z k (List.mem_range.mp mk)
  rw [List.length_map, List.length_range] at this
  omega
def ldN : Str := "abcdefghijklmnopqrstuvwxyz0123456789"
theorem ld_let {r : Int} (h0 : 0 ≤ r) (h1 : r < 26) : ∃ c, atI ldN.cps.toList r = some c ∧ LetC c := by
  have hl : ldN.cps.toList.length = 36 := by decide +kernel
  have hlt : r.toNat < ldN.cps.toList.length := by omega
  refine ⟨ldN.cps.toList[r.toNat], at_ofG (j := r.toNat) (by omega) (List.getElem?_eq_getElem hlt), ?_⟩
  have : (List.range 26).all (fun i => decide (97 ≤ ldN.cps.toList.getD i 0 ∧ ldN.cps.toList.getD i 0 ≤ 122)) = true := by decide +kernel
  have := of_decide_eq_true (List.all_eq_true.mp this r.toNat (List.mem_range.mpr (by omega)))
  rw [List.getD_eq_getElem?_getD, List.getElem?_eq_getElem hlt] at this
  exact this
theorem ld_nm {r : Int} (h0 : 0 ≤ r) (h1 : r < 36) : ∃ c, atI ldN.cps.toList r = some c ∧ NmC c := by
  have hl : ldN.cps.toList.length = 36 := by decide +kernel
  have hlt : r.toNat < ldN.cps.toList.length := by omega
  refine ⟨ldN.cps.toList[r.toNat], at_ofG (j := r.toNat) (by omega) (List.getElem?_eq_getElem hlt), ?_⟩
  have : (List.range 36).all (fun i => decide ((97 ≤ ldN.cps.toList.getD i 0 ∧ ldN.cps.toList.getD i 0 ≤ 122) ∨ (48 ≤ ldN.cps.toList.getD i 0 ∧ ldN.cps.toList.getD i 0 ≤ 57))) = true := by decide +kernel
  have := of_decide_eq_true (List.all_eq_true.mp this r.toNat (List.mem_range.mpr (by omega)))
  rw [List.getD_eq_getElem?_getD, List.getElem?_eq_getElem hlt] at this
  exact this
theorem inV_strs {x : Str} : ∀ {l : List Str}, inV (.str x) (l.map V.str) = decide (x ∈ l)
  | [] => by simp [inV]
  | y :: r => by
    have ih := inV_strs (x := x) (l := r)
    unfold inV at ih ⊢
    rw [List.map_cons, List.any_cons, ih]
    have e : eqV (V.str y) (V.str x) = decide (x = y) := by
      show (y == x) = _
      by_cases h : x = y
      · rw [decide_eq_true h, h]
        exact beq_self_eq_true y
      · rw [decide_eq_false h]
        exact beq_eq_false_iff_ne.mpr fun z => h z.symm
    rw [e]
    by_cases h1 : x = y <;> by_cases h2 : x ∈ r <;> simp [h1, h2]
/-- the last one of v0 to v19 that is free -/
def VW (ts : List Str) (x0 : Str) (i : Nat) (x : Str) : Prop := (Nm x ∧ x ∉ ts) ∨ (x = x0 ∧ ∀ k, k < i → vS k ∈ ts)
theorem VW.next {ts : List Str} {x0 x : Str} {i : Nat} (h : VW ts x0 i x) (m : vS i ∈ ts) : VW ts x0 (i + 1) x := by
  rcases h with h | ⟨e, h⟩
  · exact .inl h
  · refine .inr ⟨e, fun k z => ?_⟩
    by_cases c : k = i
    · rw [c]
      exact m
    · exact h k (by omega)
theorem VW.fin {ts : List Str} {x0 x : Str} (h : VW ts x0 20 x) (l : ts.length < 20) : Nm x ∧ x ∉ ts := by
  rcases h with h | ⟨_, h⟩
  · exact h
  · exact absurd h (vS_free l)
theorem vS_val (i : Nat) : ("v" : Str) ++ Str.ofString (toString (0 + (i : Int))) = vS i := by
  rw [Int.zero_add]
  rfl
theorem not_in {x : Str} {l : List Str} (c : (!inV (.str x) (l.map V.str)) = true) : x ∉ l := by
  rw [inV_strs] at c
  exact fun m => by
    rw [decide_eq_true m] at c
    cases c
theorem is_in {x : Str} {l : List Str} (c : ¬ (!inV (.str x) (l.map V.str)) = true) : x ∈ l := by
  rw [inV_strs] at c
  exact Decidable.byContradiction fun m => c (by rw [decide_eq_false m]; rfl)
theorem inv_t {x : Str} {l : List Str} (c : inV (.str x) (l.map V.str) = true) : x ∈ l := by
  rw [inV_strs] at c
  exact of_decide_eq_true c
theorem inv_f {x : Str} {l : List Str} (c : ¬ inV (.str x) (l.map V.str) = true) : x ∉ l := by
  rw [inV_strs] at c
  exact fun m => c (decide_eq_true m)

section
open NdefX PySem.Calls
/-- the wrapper of ValueError.__init__ is called on an exception in the making -/
theorem mw_run {X : Cx} {pins : List (Addr × Obj)} {σ : L2.St} {H : Hp} {s : Shared} {E : Value → Shared → Prop} {u x C : Addr} {us : List Value} {Q : Value → Shared → Prop} (T : OexC X.K C) (I : Inv X pins σ H s) (e : H x = some (exo x C none))
    (hu : s.heap.get? u = some (PySem.W.kxs_mw "ValueError.__init__" x)) (hl : us.length ≤ sizeLine) (h : ∀ s', Inv X pins σ H s' → Q .none s') : wpAny (model X.prog X.w) X.A (call (.ref u) us) Q E s := by
  obtain ⟨nm, q, N, bs, bm, sn, sub, ab, col, dd, k0, k1, k2, k3, k5, hC, hbm⟩ := T.cls
  obtain ⟨t1, ho⟩ := exo_at I.hok e
  obtain ⟨hp, g, d, t, os⟩ := s
  refine wpAny_call (codeAny_of_tree ?_)
  show wpAny _ X.A.in1 (callAny (.ref u) ⟨us, []⟩) _ _ _
  simp only [callAny]
  refine wpAny_bind (wpAny_load hu ?_)
  have nz : (Value.type "method-wrapper" == Value.type "method" || Value.type "method-wrapper" == Value.type "builtin_function_or_method" || Value.type "method-wrapper" == Value.type "method-wrapper") = true := by decide
  simp only [PySem.W.kxs_mw, nz, if_true]
  refine PySem.W.KFB.if_so (by decide) ?_
  have fb := F.excBase_ValueError
  refine wpAny_bind (PySem.W.check_bound_init fb.toExcCallFacts (I.kIn _ _ hC) ho rfl ?_)
  refine wpAny_bind (wpAny_pure (wpAny_pure ⟨plainId_quiet fb.init.plain _, codeAny_builtin fb.initEntry ?_⟩))
  rw [Around.under_plainId fb.init.plain _]
  refine PySem.W.exc_init_tree (cls := .ref C) (t0 := t1) (dv := none) (c2 := .none) (c3 := .none) (b4 := .bool false) ho hl fun h' k hx _ => ?_
  have J := I.write (t' := t) (x := x) (e := x) (o := exo x C none) (by rw [e]; exact True.intro) (.inl rfl) k ⟨_, hx⟩ (exo_ok hx)
  have eu : upd H x (exo x C none) = H := funext fun b => by
    by_cases hb : b = x
    · rw [hb, upd_same, e]
    · rw [upd_ne hb]
  rw [eu] at J
  exact h _ J
theorem mw_with {M : Model} {A : Around} {E : Value → Shared → Prop} {s : Shared} {i : String} {u x : Addr} {pos : Pos} {env : Env} {e : Expr} {rest : List Expr} {Q : Value → Shared → Prop}
    (h : wpAny M A (spliced (backTo pos (starEach (e :: rest) env))) (fun vs s₁ => PySem.W.KxsAt i u x s₁.heap ∧ wpAny M A (call (.ref u) vs) Q E s₁) E s)
    (he : starEach (e :: rest) env = (false, eval e env) :: starEach rest env) (hpl : (backTo pos (starEach rest env)).any (·.1) = false) :
    wpAny M A (callWith pos (.ref u) [] (backTo pos (starEach (e :: rest) env)) []) Q E s := by
  rw [he] at h ⊢
  exact PySem.W.kxs_callWith (i := i) (x := x) (by show (false || (backTo pos (starEach rest env)).any (·.1)) = false; rw [hpl]; rfl) (evalArgs_plain h)

/-- a def of a class's body that begins with super().__init__(e ..), then goes on; the class at C closes over it by the cell at cc -/
theorem fn_super {CX : CXT} {P : Program} {w : World} {K : PySem.W.Frag} {mg : Str → Option Value} {base : Heap} {k : Nat} {f cc C cda : Addr} {name qual : Str} {params : Arguments} {scope : Scope} {dV kV doc pm ct oc cl ccl : Value} {an od cld cdd : Option Addr}
    {osl csl ccs : Array (Option Value)} {N ps : List Str} {sp : Sp} {e : Expr} {es : List Expr} {rest : List Stmt} {p0 p1 p2 p3 p4 : Pos} {vs2 : Array Value} {file : Str} {tf : Tok} {ar : Arg}
    (lk : K.lookup f = some ⟨oc, od, .func (PySem.W.ksFn name qual params (.Expr (.Call (.Attribute (.Call (.Name "super" p0) [] [] p1) "__init__" p2) (e :: es) [] p3) p4 :: rest) scope dV kV doc pm an (.ref cda) ct cc), osl⟩)
    (hcd : PySem.W.codeIn K (.ref cda) qual = true) (hcode : K.lookup cda = some ⟨ccl, cdd, .fields vs2, ccs⟩) (hvs : vs2[2]? = some (.str file tf)) (hfile : ((P.main.file : Str) == file) = true)
    (hcell : K.lookup cc = some ⟨cl, cld, .cell (some (.ref C)), csl⟩) (T : OexC K C) (hsup : PySem.W.ks_superIn K C C "__init__" = some (some (.builtin "ValueError.__init__")))
    (hB : PySem.W.subIn K (.ref C) (.type "ValueError") = some true) (hself : PySem.W.mroIn K C (.ref C) = some true) (hop : PySem.W.nsIn K cStatics "thirdparty.any" = some none)
    (hsn : mg "super" = none) (htop : (P.main.scope.names.lookup ("super" : Str)).isSome = false) (hp : (params.posonlyargs ++ params.args).head? = some ar) (hps : ps[0]? = some ar.arg)
    (S : NScope N ps ["__class__"] scope) (hks : scope.names.lookup ("super" : Str) = some .globalImplicit) (len : ∀ vs H Q E, sp vs H Q E → vs.length = ps.length)
    (hbody : ∀ (A : Around) (outer : List Env) (s : Shared) (H : Hp) (vs : List V) (Q : VK) (E : XK), Room k (A.deeper (envF ⟨name, qual, params, .Expr (.Call (.Attribute (.Call (.Name "super" p0) [] [] p1) "__init__" p2) (e :: es) [] p3) p4 :: rest, scope, [("__class__", cc)], cda⟩ f s.heap.objs.size)) → sp vs H Q E →
      ∃ ta t x, PA (ncx CX P w K mg base N ⟨name, qual, params, .Expr (.Call (.Attribute (.Call (.Name "super" p0) [] [] p1) "__init__" p2) (e :: es) [] p3) p4 :: rest, scope, [("__class__", cc)], cda⟩ f A outer s H E) (e :: es) ta ∧
        PSs (ncx CX P w K mg base N ⟨name, qual, params, .Expr (.Call (.Attribute (.Call (.Name "super" p0) [] [] p1) "__init__" p2) (e :: es) [] p3) p4 :: rest, scope, [("__class__", cc)], cda⟩ f A outer s H E) rest t ∧
        vs[0]? = some (.ref x) ∧ H x = some (exo x C none) ∧
        ta (startF N vs [none]) H fun ws H1 => ws.length ≤ 1000 ∧ H1 x = some (exo x C none) ∧ t { nx := fun _ H' => Q .non H', rt := Q } (startF N vs [none]) H1)
    (he : ∀ env : Env, starEach (e :: es) env = (false, eval e env) :: starEach es env) (hpl : ∀ env : Env, (backTo p3 (starEach es env)).any (·.1) = false)
    (hev : ∀ env : Env, ∃ pl : Sem Bool, eval (.Call (.Attribute (.Call (.Name "super" p0) [] [] p1) "__init__" p2) (e :: es) [] p3) env = (do
      let ov ← attributeBase (.Call (.Name "super" p0) [] [] p1) "__init__" env (eval (.Call (.Name "super" p0) [] [] p1) env)
      standAt p2.atName
      let (f, first) ← holding [ov] (getMethod ov "__init__" pl)
      callWith p3 f first (backTo p3 (starEach (e :: es) env)) []))
    (hsw : ∀ env : Env, swapsWith (.Call (.Attribute (.Call (.Name "super" p0) [] [] p1) "__init__" p2) (e :: es) [] p3) none p4.line env = pure false) :
    FnOk P w K mg base CX (k + 1) f (PySem.W.ksFn name qual params (.Expr (.Call (.Attribute (.Call (.Name "super" p0) [] [] p1) "__init__" p2) (e :: es) [] p3) p4 :: rest) scope dV kV doc pm an (.ref cda) ct cc) ps sp := by
  generalize hbd : (Stmt.Expr (.Call (.Attribute (.Call (.Name "super" p0) [] [] p1) "__init__" p2) (e :: es) [] p3) p4 :: rest) = bd at lk hbody ⊢
  refine ⟨len, fun A outer s H args us vs Q E hr e0 hb r hsp => ?_⟩
  have KX : K.In s.heap := e0.mod.kin.keeps fun b o e => (e0.bs b o e).1
  have hl := len _ _ _ _ hsp
  have lim : s.heap.NoLimit := e0.mod.nolimit.keeps fun b o e => (e0.bs b o e).1
  obtain ⟨ta, t, x, hta, ht, hv0, hx, hq⟩ := hbody A outer s H vs Q E (hr.deeper _) hsp
  have hself0 : scope.names.lookup ar.arg = some .local := S.par _ (List.mem_of_getElem? hps)
  refine PySem.ks_codeAny_call_defAt (fd := PySem.W.ksFn name qual params bd scope dV kV doc pm an (.ref cda) ct cc) hr.depth (KX _ _ lk) rfl lim (PySem.W.codeRec_of KX hcd) rfl hb S.nocell (fun ⟨n, _⟩ hy => S.par n (List.of_mem_zip hy).1) (fun h₁ hns kp => ?_) S.co S.gen S.kind
  have cin := e0.mod.kin _ _ hcell
  have Cc : CellsAt [(("__class__" : Str), cc)] ["__class__"] [none] s.heap H := by
    have lkc : ∀ (y : Str) (c : Addr), List.lookup y [(("__class__" : Str), cc)] = some c → y = "__class__" ∧ c = cc := fun y c z => by
      simp only [List.lookup] at z
      split at z
      · rename_i g
        exact ⟨by simpa using g, (Option.some.inj z).symm⟩
      · cases z
    refine ⟨rfl, fun y c z => ?_, fun y z c h1 h2 => (lkc y c h1).1.trans (lkc z c h2).1.symm, fun i y hi => ?_⟩
    · obtain ⟨_, rfl⟩ := lkc y c z
      exact ⟨(e0.bs _ _ cin).2, _, _, (e0.bs _ _ cin).1, rfl⟩
    · cases i with
      | zero =>
        obtain rfl : "__class__" = y := Option.some.inj hi
        exact ⟨cc, by simp [List.lookup], fun v z => by cases z⟩
      | succ i => simp at hi
  have I : Inv (ncx CX P w K mg base N ⟨name, qual, params, bd, scope, [("__class__", cc)], cda⟩ f A outer s H E) [] (startF N vs [none]) H { s with heap := h₁, toks := s.toks + (ps.zip us).length } :=
    inv_startN S hr.hd e0 hl r Cc hns kp
  subst hbd
  have Xk : K.In h₁ := I.kIn
  obtain ⟨ux, hux, rvx⟩ := r.get hv0
  obtain rfl : ux = Value.ref x := rvx
  have hkc : scope.names.lookup ("__class__" : Str) = some .free := S.frk _ (List.mem_singleton.mpr rfl)
  obtain ⟨nm, q, Nn, bs, bm, sn, sub, ab, col, dd, k0, k1, k2, k3, k5, hC, hbm⟩ := id T.cls
  have hcl : PySem.W.clsIn K C = some { name := nm, bases := bs, mro := .ref C :: bm, ns := Nn, qualname := q, hasDict := true, slotNames := sn, subclasses := sub, abstract := ab, collection := col, hasDel := false } := by unfold PySem.W.clsIn; rw [hC] <;> rfl
  obtain ⟨t1, ho⟩ := exo_at I.hok hx
  refine PySem.ks_wpAt_execs_cons (PySem.ks_wpAt_Expr_any ?_ (by show (scope.kind == .module && _) = false; rw [S.kind]; rfl) (hsw _))
  obtain ⟨pl, hev⟩ := hev (PySem.W.ksEnv qual scope s.heap.objs.size f (.ref cda) cc)
  refine PySem.ks_wpAt_MethodCall (pl := pl) ?_ hev
  refine PySem.ks_wpAt_super_base hks hkc rfl rfl (Xk _ _ lk) rfl hp rfl (Xk _ _ hcode) rfl hvs hfile htop ?_
  obtain ⟨mb, b1, b2⟩ := I.mod.blt
  refine PySem.W.ks_loadName_global S.kind hks (Calls.loadGlobal_builtin (I.mod.glob.keeps I.bk) hsn (b1.keeps I.bk) ((b2 "super" (by decide)).trans (by first | rfl | kernel_rfl | decide +kernel)) ⟨rfl, ?_⟩)
  refine wpAny_loadName_free S.kind hkc rfl ⟨_, Xk _ _ hcell, rfl⟩ ?_
  refine wpAny_loadName_local S.kind hself0 hns (v := .ref x) (zip_look ?nd hps hux) ?_
  case nd =>
    have z := S.nd.sublist (List.take_sublist (ps.length + 1) N)
    rw [show N.take (ps.length + 1) = ps ++ [("__class__" : Str)] from S.pre] at z
    exact (List.nodup_append.mp z).1
  refine PySem.ks_wpAny_isType_cls (Xk _ _ hC) rfl ⟨rfl, ?_⟩
  refine PySem.ks_wpAny_call_super (Xk _ _ hC) rfl ho rfl (fun c z => by cases z) (PySem.W.looks_mroIn Xk hself) (fun h2 e2 kp2 => ?_)
  have I2 := I.kept (t' := s.toks + (ps.zip us).length) kp2
  obtain ⟨t2, ho2⟩ := exo_at I2.hok hx
  have X2 : K.In h2 := I2.kIn
  have inst : PySem.W.InstAt h2 x ({ cls := .ref C, dict := none, data := .fields #[.ref t2, .none, .none, .none, .bool false, .none] } : Obj) C none := ⟨ho2, rfl, rfl, trivial⟩
  refine PySem.W.kxs_getMethod PySem.W.kxs_ValueError e2 (PySem.W.looks_opaque X2 hop) (l₀ := .ref C :: bm) ((PySem.W.looks_clsIn X2 hcl).andThen .now) (l := ((Value.ref C :: bm).dropWhile (· != .ref C)).drop 1) rfl X2 ?_ (inst.type.andThen (PySem.W.looks_subIn X2 hB)) ?_ (by rfl) ?_
  · unfold PySem.W.ks_superIn at hsup
    rw [hcl] at hsup
    exact hsup
  · exact PySem.W.ks_ne X2 inst hcl
  have up : ∀ b u, h2.get? b = some u → (h2.push (PySem.W.kxs_mw "ValueError.__init__" x)).get? b = some u := fun b u z => Heap.get?_push_of_some _ z
  have I3 := I2.kept (h' := h2.push (PySem.W.kxs_mw "ValueError.__init__" x)) (t' := s.toks + (ps.zip us).length + 1) up
  have hget : (h2.push (PySem.W.kxs_mw "ValueError.__init__" x)).get? h2.objs.size = some (PySem.W.kxs_mw "ValueError.__init__" x) := Heap.get?_push_size _ rfl
  have I4 := I3.pins_of (pins' := [(h2.objs.size, PySem.W.kxs_mw "ValueError.__init__" x)]) fun p hp => by
    obtain rfl := List.mem_singleton.mp hp
    exact ⟨hget, I2.hok.fresh (Nat.le_refl _), Nat.ne_of_gt I2.lt, I2.nofs (Nat.le_refl _), fun v z => by cases z⟩
  refine mw_with (i := "ValueError.__init__") (x := x) ?_ (he _) (hpl _)
  refine thn (hta.run p3 _ _ (startF N vs [none]) H _ I4 hq) fun ws s5 hh => ?_
  obtain ⟨vs5, H5, I5, r5, l5, hx5, q5⟩ := hh
  refine ⟨(I5.pin (h2.objs.size, PySem.W.kxs_mw "ValueError.__init__" x) (List.mem_append_right _ (List.mem_singleton.mpr rfl))).1, ?_⟩
  refine mw_run T I5 hx5 ((I5.pin (h2.objs.size, PySem.W.kxs_mw "ValueError.__init__" x) (List.mem_append_right _ (List.mem_singleton.mpr rfl))).1) (by rw [← Paired.length r5, sizeLine_eq]; omega) fun s6 I6 => ?_
  refine PySem.wpAt_of_wpAny (wpAny_mono (ht.run _ s6 (startF N vs [none]) H5 _ I6 q5) (fun fl s7 hs => ?_) fun e s7 hs => hs)
  have fin : ∀ {σ' : L2.St} {H' : Hp} {v : V} {u : Value} {pp : List (Addr × Obj)}, Inv (ncx CX P w K mg base N ⟨name, qual, params, Stmt.Expr (.Call (.Attribute (.Call (.Name "super" p0) [] [] p1) "__init__" p2) (e :: es) [] p3) p4 :: rest, scope, [("__class__", cc)], cda⟩ f A outer s H E) pp σ' H' s7 → L2.RelV v u → Q v H' → CE outer P w H s Q u s7 :=
    fun J rv q => ⟨_, _, J.os, J.bare, J.base, J.hok, rv, q⟩
  cases fl with
  | ret u => obtain ⟨v, σ', H', J, rv, q⟩ := hs; exact fin J rv q
  | next => obtain ⟨σ', H', J, q⟩ := hs; exact fin (v := V.non) (u := Value.none) J rfl q
  | brk => obtain ⟨_, _, _, q⟩ := hs; exact q.elim
  | cont => obtain ⟨_, _, _, q⟩ := hs; exact q.elim
end

/-! ### an own class of errors with one field -/
structure ErrC (K : PySem.W.Frag) (C a : Addr) (st : Stmt) (qual fld : Str) (fd : FuncData) : Prop where
  ox : OexC K C
  xf : XfC K C
  no : PySem.W.findIn K (.ref C) fld = some none
  ini : PySem.W.findIn K (.ref C) "__init__" = some (some (.ref a))
  ty : PySem.W.typeIn K (.ref a) = some (.type "function")
  fn : ∃ (oc kV doc pm ct ccl cl : Value) (od an cdd cld : Option Addr) (cda cc : Addr) (osl ccs csl : Array (Option Value)) (vs2 : Array Value) (tf : Tok), fd = PySem.W.ksFn "__init__" qual (defArgs st) (defBody st) (defScope st) .none kV doc pm an (.ref cda) ct cc ∧
    K.lookup a = some ⟨oc, od, .func fd, osl⟩ ∧ PySem.W.codeIn K (.ref cda) qual = true ∧ K.lookup cda = some ⟨ccl, cdd, .fields vs2, ccs⟩ ∧ vs2[2]? = some (.str "/claim/cut.py" tf) ∧ K.lookup cc = some ⟨cl, cld, .cell (some (.ref C)), csl⟩ ∧
    PySem.W.ks_superIn K C C "__init__" = some (some (.builtin "ValueError.__init__")) ∧ PySem.W.subIn K (.ref C) (.type "ValueError") = some true ∧ PySem.W.mroIn K C (.ref C) = some true ∧ PySem.W.nsIn K cStatics "thirdparty.any" = some none
/-- the program's file, and that its top has no name super -/
class PrOk (P : Program) : Prop where
  file : ((P.main.file : Str) == "/claim/cut.py") = true
  top : (P.main.scope.names.lookup ("super" : Str)).isSome = false
section
variable {CX : CXT} {P : Program} {w : World} {K : PySem.W.Frag} {mg : Str → Option Value} {base : Heap} {N : List Str} {qual : Str} {scope : Scope} {f : Addr} {cd : Value} {A : Around} {outer : List Env} {s : Shared} {H : Hp} {E : XK}
instance [h : PrOk P] : PrOk (cxOf CX P w K mg base N qual scope f cd A outer s H E).prog := h
instance {X : Cx} [h : PrOk X.prog] : PrOk X.nox.prog := h
instance {X : Cx} [h : PrOk X.prog] {pn : List (Addr × Obj)} {xe : Value → Shared → Prop} : PrOk (X.tr pn xe).prog := h
instance {X : Cx} [h : PrOk X.prog] {a : Addr} {pn : List (Addr × Obj)} : PrOk (X.suite a pn).prog := h
end
/-- X.__init__(self, v) -/
def spErr (C : Addr) (fld : Str) (ok : V → Prop) : Sp := fun vs H Q _ => ∃ x v, vs = [.ref x, v] ∧ H x = some (exo x C none) ∧ ok v ∧ ∀ dx, H dx = none → dx ≠ x → Q .non (upd (upd H dx (exd dx [(fld, v)])) x (exo x C (some dx)))
/-- what raise X(v) asks -/
theorem raise_ok {C : Addr} {fld : Str} {ok : V → Prop} {H1 : Hp} {v : V} {Q : XK} (hv : ok v) (k : ∀ d H', Same H1 H' → H1 d = none → H' d = some (.xd [(fld, v)]) → Q (.ref C) (some d) H') :
    [v].length ≤ 1000 ∧ ∀ a, H1 a = none → spErr C fld ok (.ref a :: ([v] ++ [])) (upd H1 a (exo a C none))
      (fun w H2 => w = .non ∧ ∃ (d : Addr) (fs : List (Str × V)), H2 a = some (exo a C (some d)) ∧ H2 d = some (exd d fs) ∧ H1 d = none ∧ Q (.ref C) (some d) (upd (del H2 a) d (.xd fs))) (fun _ _ _ => False) := by
  refine ⟨by show 1 ≤ 1000; decide, fun a na => ⟨a, v, rfl, upd_same, hv, fun dx nd ne => ⟨rfl, dx, [(fld, v)], upd_same, ?_, ?_, ?_⟩⟩⟩
  · rw [upd_ne ne, upd_same]
  · rw [upd_ne ne] at nd
    exact nd
  · have nd1 : H1 dx = none := by rw [upd_ne ne] at nd; exact nd
    refine k dx _ (fun b o e => ?_) nd1 upd_same
    have b1 : b ≠ dx := ne_of_none e nd1
    have b2 : b ≠ a := ne_of_none e na
    rw [upd_ne b1, del_ne b2, upd_ne b2, upd_ne b1, upd_ne b2]
    exact e
/-! ### try .. except x as n .. else -/
section
variable {X : Cx} {x n : Str} {c : Value} {i : Nat} {body suite orelse : List Stmt} {b1 : Stmt} {q1 q2 q3 : Pos} {tb : WX → TS} {ts : Addr → Value → Option Addr → TS} {Wout : WX} {u : TS}
def tTryE (K : PySem.W.Frag) (c : Value) (i : Nat) (tb : WX → TS) (ts : Addr → Value → Option Addr → TS) (Wout : WX) (u : TS) : TS := fun D σ H => tb (wAs K c i ts Wout D) { D with nx := u D } σ H
theorem ps_try_asE (ho : PSs X orelse u) (hs : X.stack = X.env :: X.outer) (hf : X.env.frame = some X.env.locals) (hN : X.N.Nodup) (hi : X.N[i]? = some n) (hl : X.env.kindOf n = some .local) (hc : Names X x c) (tk : Takes X Wout)
    (hb : ∀ (W : WX) (pn : List (Addr × Obj)) (xe : Value → Shared → Prop), Takes (X.tr pn xe) W → PassesOwn (model X.prog X.w) X.A X.env xe → PSs (X.tr pn xe) body (tb W))
    (hsu : ∀ (a : Addr) (oe : Obj) (cls : Value) (d : Option Addr) (pn : List (Addr × Obj)), Zc cls d oe → (∃ vs, oe.data = .fields vs) → PSs (X.suite a ((a, oe) :: pn)) (b1 :: suite) (ts a cls d)) :
    PS X (.Try body [.ExceptHandler (some (.Name x q1)) (some n) (b1 :: suite) q2] orelse [] q3) (tTryE X.K c i tb ts Wout u) := by
  -- without else first: what the clause does with an exception of the body
  refine ⟨fun pins s σ H D I h => wpAny_Try_except ?_⟩
  have ok := I.ok
  have afr : X.A.frames = some (X.env :: X.outer) := by rw [ok.frames, hs]
  let Ex : Value → Shared → Prop := fun e s₁ => wpAny (model X.prog X.w) X.A (noteFrame e X.env) (fun _ s₂ => wpAny (model X.prog X.w) X.A (setFlight e none) (fun _ s₃ => wpAny (model X.prog X.w) X.A (handleBy e X.env [.ExceptHandler (some (.Name x q1)) (some n) (b1 :: suite) q2]) (SP X pins D) X.xe s₃) X.xe s₂) X.xe s₁
  have catch_ : Takes (X.tr (X.pn ++ pins) Ex) (wAs X.K c i ts Wout D) := by
    rintro _ sh ⟨ea, G, sl, pp, τ, Hτ, cl, dd, rfl, Jt, nb, up, sky, na, os, ag, bo, hbo, hy, hn⟩
    have J := Jt.ofTry ok
    rw [show (X.tr (X.pn ++ pins) Ex).stack = X.env :: X.outer from hs] at sky
    refine Sky.land Zc.steady afr hf sky fun g3 f3 u3 => ?_
    have J3 := J.landed (s' := { sh with heap := g3 }) nb f3.1 (up.trans u3) os ag
    obtain ⟨ob, fv, eb, zb, db⟩ := f3.there
    have far : ea ∉ frs (X.env :: X.outer) := fun hm => by
      obtain ⟨_, o2, e2, k2⟩ := (show g3.FunFrames G (X.env :: X.outer) from f3.2.2.1).mem hm
      rw [eb] at e2
      cases e2
      exact k2 _ db
    have eL : ea ≠ X.env.locals := fun z => far (List.mem_filterMap.mpr ⟨X.env, .head _, by rw [hf, z]⟩)
    have eF : ea ∉ X.fs := fun hm => by
      obtain ⟨v, hv, q⟩ := List.mem_filterMap.mp hm
      exact far (List.mem_filterMap.mpr ⟨v, .tail _ hv, q⟩)
    have S3 := J3.suite eb db na eL eF
    refine wpAny_handleBy_cons (codeAny_handlers_test ?_) (fun q => by cases q)
    have tyE : PySem.W.Looks (model X.prog X.w) g3 (typeOf (.ref ea)) cl := fun _ _ _ _ kk q => wpAny_typeOf_ref (kk _ _ eb) (by rw [zb.1]; exact q)
    have isE := PySem.W.exm_one (M := model X.prog X.w) J3.kIn tyE hbo
    have named : ∀ {Q : Value → Shared → Prop} {E : Value → Shared → Prop}, Q c { sh with heap := g3 } → wpAny (model X.prog X.w) (X.A.mark (some (.ref ea))) (eval (.Name x q1) X.env) Q E { sh with heap := g3 } := fun q => by
      rcases hc with ⟨gl, dbg, hm | ⟨hm, hv, nn⟩⟩
      · exact ld_glob (X := X.suite ea ((ea, ob) :: (X.pn ++ pins))) S3 gl hm q dbg
      · exact ld_blt (X := X.suite ea ((ea, ob) :: (X.pn ++ pins))) S3 gl hm hv q nn dbg
    refine named (isE.here ?_)
    cases bo
    · refine wpAny_handleBy_nil ?_
      obtain ⟨_, _, _, oz, wz, tz, _, _, ez, _, dz, gz, _⟩ := id f3
      have up2 : wpAny (model X.prog X.w) X.A (setFlight (.ref ea) X.env.frame) (fun _ s4 => wpAny (model X.prog X.w) X.A (throw (.ref ea) : Sem Flow) (SP X pins D) X.xe s4) X.xe { sh with heap := g3 } := by
        rw [hf]
        exact HandSPX.setFlight_upZ f3 fun g4 h4 u4 => wpAny_throw (tk _ _ ⟨ea, G, sl, pins, τ, Hτ, cl, dd, rfl, J, nb, (up.trans u3).trans u4, .inr (.inr (by rw [hs]; exact h4)), na, os, ag, hn rfl⟩)
      unfold PySem.passOn
      refine wpAny_bind (wpAny_field ez dz gz ?_)
      rw [if_neg (show ¬ ((Value.ref tz == Value.none) = true) by simp)]
      first | exact wpAny_bind (wpAny_pure (wpAny_bind up2)) | exact wpAny_bind up2
    · refine codeAny_handlers_suite_as (HandSPX.lands_againZ f3 fun g4 f4 u4 => ?_)
      have J4 := J.landed (s' := { sh with heap := g4 }) nb f4.1 ((up.trans u3).trans u4) os ag
      obtain ⟨o4, v4, e4, z4, d4⟩ := f4.there
      refine store_ok (X := X.suite ea ((ea, o4) :: (X.pn ++ pins))) (v := .ref ea) (J4.suite e4 d4 na eL eF) hN hi (.inl hl) rfl (fun s5 S5 => ?_) (.inr hl)
      refine wpAny_mono ((hsu ea o4 cl dd (X.pn ++ pins) z4 ⟨_, d4⟩).run [] s5 _ Hτ _ S5 (hy rfl ea na)) (fun fl s6 hsp => ?_) fun _ _ z => z.elim
      cases fl
      case next => obtain ⟨_, _, S6, q6⟩ := hsp; exact gone_ok (S6.unsuite ok) hN hi hl fun s7 J7 => ⟨_, _, J7, q6⟩
      case brk => obtain ⟨_, _, S6, q6⟩ := hsp; exact gone_ok (S6.unsuite ok) hN hi hl fun s7 J7 => ⟨_, _, J7, q6⟩
      case cont => obtain ⟨_, _, S6, q6⟩ := hsp; exact gone_ok (S6.unsuite ok) hN hi hl fun s7 J7 => ⟨_, _, J7, q6⟩
      case ret w => obtain ⟨_, _, _, S6, r6, q6⟩ := hsp; exact gone_ok (S6.unsuite ok) hN hi hl fun s7 J7 => ⟨_, _, _, J7, r6, q6⟩
  refine wpAny_mono ((hb _ _ Ex catch_ PassesOwn.looking).run [] s σ H { D with nx := u D } (I.toTry _) h) (fun fl s1 hsp => ?_) fun _ _ z => z
  cases fl
  case next => obtain ⟨_, _, J, q⟩ := hsp; exact ho.run pins s1 _ _ D (J.ofTry ok) q
  case brk => obtain ⟨_, _, J, q⟩ := hsp; exact ⟨_, _, J.ofTry ok, q⟩
  case cont => obtain ⟨_, _, J, q⟩ := hsp; exact ⟨_, _, J.ofTry ok, q⟩
  case ret w => obtain ⟨_, _, _, J, r, q⟩ := hsp; exact ⟨_, _, _, J.ofTry ok, r, q⟩
end
section
variable {X : Cx} {x n : Str} {c : Value} {i : Nat} {body suite : List Stmt} {b1 : Stmt} {q1 q2 q3 : Pos} {tb : WX → TS} {ts : Addr → Value → Option Addr → TS} {Wout : WX}
def tTryA (K : PySem.W.Frag) (c : Value) (i : Nat) (tb : WX → TS) (ts : Addr → Value → Option Addr → TS) (Wout : WX) : TS := fun D σ H => tb (wAs K c i ts Wout D) D σ H
theorem ps_try_asN (hs : X.stack = X.env :: X.outer) (hf : X.env.frame = some X.env.locals) (hN : X.N.Nodup) (hi : X.N[i]? = some n) (hl : X.env.kindOf n = some .local) (hc : Names X x c) (tk : Takes X Wout)
    (hb : ∀ (W : WX) (pn : List (Addr × Obj)) (xe : Value → Shared → Prop), Takes (X.tr pn xe) W → PassesOwn (model X.prog X.w) X.A X.env xe → PSs (X.tr pn xe) body (tb W))
    (hsu : ∀ (a : Addr) (oe : Obj) (cls : Value) (d : Option Addr) (pn : List (Addr × Obj)), Zc cls d oe → (∃ vs, oe.data = .fields vs) → PSs (X.suite a ((a, oe) :: pn)) (b1 :: suite) (ts a cls d)) :
    PS X (.Try body [.ExceptHandler (some (.Name x q1)) (some n) (b1 :: suite) q2] [] [] q3) (tTryA X.K c i tb ts Wout) := ps_try_as hs hf hN hi hl hc tk hb hsu
end
/-! ### calls that may raise, wished for at the caller's slots -/
section
variable {X : Cx} {CX : CXT} {k : Nat} {f C : Addr} {fd : FuncData} {ps : List Str} {sp : Sp} {dvs : List V} {ds : List Value} {E : L2.St → XK} {x m : Str} {p pos apos : Pos} {e o : Expr} {es : List Expr} {ta : TE} {t : TA}
def tMethT (C : Addr) (m : Str) (sp : Sp) (dvs : List V) (E : L2.St → XK) (ta : TE) (t : TA) : TE := fun σ H Q => ta σ H fun x H1 => ∃ a dx fs, x = .ref a ∧ H1 a = some (.ins C dx fs) ∧ fs.lookup m = none ∧ t σ H1 fun vs H2 => sp (x :: (vs ++ dvs)) H2 Q (E σ)
theorem pe_methT {pl : Sem Bool} (he : PE X o ta) (c : Cls X.K C) (hm : Meth X.K C m f) (F : FnOk X.prog X.w X.K X.mg X.base CX k f fd ps sp) (hr : Room k X.A) (hb : Binds X.K fd ps ds) (hd : Vals dvs ds) (hx : ∀ σ, PassesAt CX X σ (E σ)) (ha : PA X (e :: es) t)
    (hst : starEach (e :: es) X.env = (false, eval e X.env) :: starEach es X.env := by rfl) (hpl : (backTo pos (starEach es X.env)).any (·.1) = false := by rfl)
    (ht : eval (.Call (.Attribute o m apos) (e :: es) [] pos) X.env = (eval o X.env >>= fun ov => standAt apos.atName >>= fun _ => holding [ov] (getMethod ov m pl) >>= fun z => callWith pos z.1 z.2 (backTo pos (starEach (e :: es) X.env)) (backToKw pos (keywordEach [] X.env))) := by rfl) :
    PE X (.Call (.Attribute o m apos) (e :: es) [] pos) (tMethT C m sp dvs E ta t) := by
  refine ⟨fun pins s σ H Q I h => PySem.W.methodCall_KW (pl := pl) (thn (he.run pins s σ H _ I h) fun w s1 hh => ?_) ht⟩
  obtain ⟨_, H1, I1, rx, a, dx, fs, rfl, ea, l, q⟩ := hh
  cases (show w = Value.ref a from rx)
  refine getmeth_ok I1 ea c hm l (PySem.W.callWith_K (first := [.ref a]) (h₀ := X.base) I.ok.mod.kin hm.kp (thn (ha.run pos pins s1 σ H1 _ I1 q) fun us s2 h2 => ?_) hst hpl)
  obtain ⟨vs, H2, I2, r, q2⟩ := h2
  exact ⟨I2.kIn, run_fnSD (us := .ref a :: us) (vs := .ref a :: vs) F hr hb hd (hx σ) I2 (.cons rfl r) q2⟩
def tMakeT (C : Addr) (sp : Sp) (dvs : List V) (E : L2.St → XK) (t : TA) : TE := fun σ H Q => t σ H fun vs H1 => ∀ x dx, H1 x = none → H1 dx = none → dx ≠ x → sp (.ref x :: (vs ++ dvs)) (upd (upd H1 dx (.own x)) x (.ins C dx [])) (fun v H2 => v = .non ∧ Q (.ref x) H2) (E σ)
theorem pe_makeT (M : Mk X.K C f) (F : FnOk X.prog X.w X.K X.mg X.base CX k f fd ps sp) (hr : Room (k + 1) X.A) (hg : Gl X x) (hm : X.mg x = some (.ref C)) (hb : Binds X.K fd ps ds) (hd : Vals dvs ds) (hx : ∀ σ, PassesAt CX X σ (E σ))
    (ha : PA X (e :: es) t) (hdb : (x == ("__debug__" : Str)) = false := by decide) (he : starEach (e :: es) X.env = (false, eval e X.env) :: starEach es X.env := by rfl) (hpl : (backTo pos (starEach es X.env)).any (·.1) = false := by rfl) :
    PE X (.Call (.Name x p) (e :: es) [] pos) (tMakeT C sp dvs E t) := by
  refine ⟨fun pins s σ H Q I h => wpAny_Call_Name_kw (ld_glob I hg hm (PySem.W.callWith_K (h₀ := X.base) I.ok.mod.kin M.kp (thn (ha.run pos pins s σ H _ I h) fun us s1 hh => ?_) he hpl) hdb)⟩
  obtain ⟨vs, H1, I1, r, q⟩ := hh
  refine ⟨I1.kIn, ?_⟩
  have q' := q (s1.heap.objs.size + 1) s1.heap.objs.size (I1.hok.fresh (Nat.le_succ _)) (I1.hok.fresh (Nat.le_refl _)) (Nat.ne_of_lt (Nat.lt_succ_self _))
  have made := Inv.made (C := C) I1
  have rr : Vals (V.ref (s1.heap.objs.size + 1) :: (vs ++ dvs)) (Value.ref (s1.heap.objs.size + 1) :: (us ++ ds)) := .cons rfl (r.append hd)
  have ln := rr.length
  rw [F.len _ _ _ _ q'] at ln
  have bb := hb _ (Value.ref (s1.heap.objs.size + 1) :: us) made.kIn ln.symm
  have run := F.run _ X.stack _ _ ⟨Value.ref (s1.heap.objs.size + 1) :: us, []⟩ _ _ _ (E σ) (hr.make C us []) (made.env0.make C us []) bb rr q'
  refine wpAny_call (make_map (f := f) I1.kIn M.makes M.init (beq_iff_eq.mp M.fn) (codeAny_mono run fun res s' hres => ?_))
  rcases res with er | fl
  · exact hx σ pins _ _ er s' made hres
  · cases fl
    case ret w =>
      obtain ⟨_, H', I3, rv, rfl, q3⟩ := made.after hres
      exact ⟨rv, V.ref (s1.heap.objs.size + 1), H', I3, rfl, q3⟩
    all_goals exact hres.elim
end

/-! ### defs called while an exception is handled (they raise nothing) -/
structure FnQ (P : Program) (w : World) (K : PySem.W.Frag) (mg : Str → Option Value) (base : Heap) (k : Nat) (f : Addr) (fd : FuncData) (ps : List Str) (sp : Sp) : Prop where
  size : ∀ vs H Q E, sp vs H Q E → vs.length = ps.length
  runs : ∀ (A : Around) (outer : List Env) (s : Shared) (H : Hp) (args : Args) (us : List Value) (vs : List V) (Q : VK) (E : XK), L2H.RoomH k A → Env0 P w K mg base A outer s H → BindsTo s fd args (ps.zip us) → Vals vs us → sp vs H Q E → codeAny (model P w) A (.call (.ref f) args) (CR CX0 outer P w H s Q E) s
def cxQ (P : Program) (w : World) (K : PySem.W.Frag) (mg : Str → Option Value) (base : Heap) (N : List Str) (qual : Str) (scope : Scope) (f : Addr) (cd : Value) (A : Around) (outer : List Env) (s : Shared) (H : Hp) (E : XK) : Cx :=
  { cxOf CX0 P w K mg base N qual scope f cd A outer s H E with calm := false }
instance {P : Program} {w : World} {K : PySem.W.Frag} {mg : Str → Option Value} {base : Heap} {N : List Str} {qual : Str} {scope : Scope} {f : Addr} {cd : Value} {A : Around} {outer : List Env} {s : Shared} {H : Hp} {E : XK} [h : PrOk P] : PrOk (cxQ P w K mg base N qual scope f cd A outer s H E).prog := h
theorem inv_cold {P : Program} {w : World} {K : PySem.W.Frag} {mg : Str → Option Value} {base : Heap} {N : List Str} {qual : Str} {scope : Scope} {f : Addr} {cd : Value} {A : Around} {outer : List Env} {s s1 : Shared} {H H1 : Hp} {E : XK} {pins : List (Addr × Obj)} {σ : L2.St}
    (I : Inv (cxOf CX0 P w K mg base N qual scope f cd { A with handled := none } outer s H E) pins σ H1 s1) (fr : A.frames = some outer) : Inv (cxQ P w K mg base N qual scope f cd A outer s H E) pins σ H1 s1 :=
  have o := I.ok
  ⟨⟨o.mod, o.kind, o.glob, o.blt, o.above, o.inj, o.has, o.cab, fun z => Bool.noConfusion (show false = true from z), Around.frames_deeper fr, o.stk, o.exf, o.bs, o.bsz, o.noex, o.exfs, o.funs, o.frf⟩, I.os, I.bare, I.base, I.loc, I.cell, I.free, I.freeC, I.pin, I.hok, I.len⟩
theorem fun_okQ {P : Program} {w : World} {K : PySem.W.Frag} {mg : Str → Option Value} {base : Heap} {x qual : Str} {st : Stmt} {f : Addr} {fd : FuncData} {N ps : List Str} {k : Nat} {sp : Sp} (F : Fun K x qual st f fd) (S : FnScope N ps (defScope st)) (len : ∀ vs H Q E, sp vs H Q E → vs.length = ps.length)
    (hbody : ∀ (cdv : Value) (A : Around) (outer : List Env) (s : Shared) (H : Hp) (vs : List V) (Q : VK) (E : XK), L2H.RoomH k (A.deeper (envOfC qual (defScope st) s.heap.objs.size f cdv)) → sp vs H Q E →
      ∃ t, PSs (cxQ P w K mg base N qual (defScope st) f cdv A outer s H E).nox (defBody st) t ∧ t { nx := fun _ H' => Q .non H', rt := Q } (start N vs) H) : FnQ P w K mg base (k + 1) f fd ps sp := by
  obtain ⟨a1, a2, a3, a4, a5, a6, cv, a7, a8, rfl, at_, code⟩ := F.ex
  refine ⟨len, fun A outer s H args us vs Q E hr e0 hb r h => ?_⟩
  have Kin : K.In s.heap := e0.mod.kin.keeps fun b o e => (e0.bs b o e).1
  have free : s.heap.NoLimit := e0.mod.nolimit.keeps fun b o e => (e0.bs b o e).1
  refine codeAny_call_function hr.depth (Kin _ _ at_) rfl S.co S.gen rfl (PySem.W.codeRec_of Kin code) (hb _ _ _ _ (wpAny_newFunctionEnv_cells S.kind (fun y hy => ?_) fun env he s1 z => ?_))
  · obtain ⟨n, v⟩ := y
    exact (S.par n (List.of_mem_zip hy).1).imp id fun q => ⟨q, PySem.W.cellsFrom_some _ _ _ (.inl q)⟩
  · subst he
    obtain ⟨t, ht, hq⟩ := hbody cv A outer s H vs Q E (hr.deeper _) h
    have e1 : Env0 P w K mg base { A with handled := none } outer s H := ⟨e0.frames, e0.mod, e0.bs, e0.bsz, e0.funs, e0.frf, e0.hok, e0.bare⟩
    have J := inv_cold (inv_start (CX := CX0) (E := E) (f := f) (cd := cv) S rfl e1 (len _ _ _ _ h) r z) e0.frames
    refine ⟨free.keeps z.toInCall.keep, codeAny_func (wpAny_mono (ht.nox.run [] s1 (start N vs) H _ J hq) (fun fl s2 hs => ?_) fun _ _ y => y)⟩
    cases fl
    case ret u => obtain ⟨v, _, H', J2, rv, q⟩ := hs; exact ⟨v, H', J2.os, J2.bare, J2.base, J2.hok, rv, q⟩
    case next => obtain ⟨_, H', J2, q⟩ := hs; exact ⟨V.non, H', J2.os, J2.bare, J2.base, J2.hok, (rfl : RelV V.non Value.none), q⟩
    case brk => obtain ⟨_, _, _, q⟩ := hs; exact q.elim
    case cont => obtain ⟨_, _, _, q⟩ := hs; exact q.elim
section
variable {X : Cx} {k : Nat} {f : Addr} {fd : FuncData} {ps : List Str} {sp : Sp} {x : Str} {q pos : Pos} {e : Expr} {es : List Expr} {t : TA}
def tTru (K : PySem.W.Frag) (ta : TE) : TT := fun σ H Q => ta σ H fun x H' => ∃ b, TruV K x H' b ∧ Q b H'
theorem pt_tru {a : Expr} {ta : TE} {ea : Addr} {pn : List (Addr × Obj)} (ha : PE (X.suite ea pn) a ta) (he : ∀ whole, isTrue a X.env whole = (whole >>= fun v => standAt a.pos >>= fun _ => holding [v] (truthy v))) : PT (X.suite ea pn) a (tTru X.K ta) := pt_truth (X := X.suite ea pn) ha he
theorem pe_fldS {o : Expr} {ta : TE} {g : Str} {ea : Addr} {pn : List (Addr × Obj)} {q0 : Pos} (h : PE (X.suite ea pn) o ta) (hb : attributeBase o g X.env (eval o X.env) = eval o X.env) : PE (X.suite ea pn) (.Attribute o g q0) (tFld X.K ta g) := pe_fld (X := X.suite ea pn) h hb
theorem roomS {X : Cx} {a : Addr} {pn : List (Addr × Obj)} {i j : Nat} (h : Room j X.A) (le : i ≤ j) : L2H.RoomH i (X.suite a pn).A := ⟨(h.mono le).dp, (h.mono le).un⟩
def tCallQ (sp : Sp) (t : TA) : TE := fun σ H Q => t σ H fun vs H1 => sp vs H1 Q (fun _ _ _ => False)
theorem pe_callQ (F : FnQ X.prog X.w X.K X.mg X.base k f fd ps sp) (hr : L2H.RoomH k X.A) (hg : Gl X x) (hm : X.mg x = some (.ref f)) (hk : PySem.W.keepIn X.K (.ref f) = true) (hb : Binds X.K fd ps [])
    (ha : PA X (e :: es) t) (hdb : (x == ("__debug__" : Str)) = false := by decide) (he : starEach (e :: es) X.env = (false, eval e X.env) :: starEach es X.env := by rfl) (hpl : (backTo pos (starEach es X.env)).any (·.1) = false := by rfl) :
    PE X (.Call (.Name x q) (e :: es) [] pos) (tCallQ sp t) := by
  refine ⟨fun pins s σ H Q I h => wpAny_Call_Name_kw (ld_glob I hg hm (PySem.W.callWith_K (h₀ := X.base) I.ok.mod.kin hk (thn (ha.run pos pins s σ H _ I h) fun us s1 hh => ?_) he hpl) hdb)⟩
  obtain ⟨vs, H1, I1, r, q1⟩ := hh
  have b := hb s1 us I1.kIn (by rw [List.append_nil, ← r.length]; exact F.size _ _ _ _ q1)
  rw [List.append_nil] at b
  refine ⟨I1.kIn, wpAny_call (codeAny_mono (F.runs X.A X.stack s1 H1 ⟨us, []⟩ us vs Q (fun _ _ _ => False) hr I1.env0 b r q1) fun res s2 hres => ?_)⟩
  rcases res with er | fl
  · exact hres.elim
  · cases fl
    case ret u => exact I1.after hres
    all_goals exact hres.elim
end
theorem exm_sup {K : PySem.W.Frag} {S B : Addr} (h1 : PySem.W.subIn K (.ref B) (.type "BaseException") = some true) (h2 : PySem.W.isClsIn K B = true) (h3 : PySem.W.typeIn K (.ref B) = some (.type "type")) (h4 : PySem.W.subIn K (.ref S) (.ref B) = some true) :
    PySem.W.exmOne K (.ref S) (.ref B) = some true := by
  unfold PySem.W.exmOne
  have e1 : (PySem.W.subIn K (.ref B) (.type "BaseException") == some true) = true := by rw [h1] <;> rfl
  have e2 : ((PySem.W.clsIn K B).isSome && PySem.W.typeIn K (.ref B) == some (.type "type")) = true := by
    rw [show (PySem.W.clsIn K B).isSome = true from h2, h3] <;> rfl
  rw [if_pos e1]
  show (if ((PySem.W.clsIn K B).isSome && PySem.W.typeIn K (.ref B) == some (.type "type")) = true then PySem.W.subIn K (.ref S) (.ref B) else none) = some true
  rw [if_pos e2]
  exact h4
theorem exm_self {K : PySem.W.Frag} {S : Addr} (h1 : PySem.W.subIn K (.ref S) (.type "BaseException") = some true) (h2 : PySem.W.isClsIn K S = true) (h3 : PySem.W.typeIn K (.ref S) = some (.type "type")) (h4 : PySem.W.subIn K (.ref S) (.ref S) = some true) :
    PySem.W.exmOne K (.ref S) (.ref S) = some true := exm_sup h1 h2 h3 h4
/-! ### isinstance of a caught error -/
structure ErrI (K : PySem.W.Frag) (D : Addr) : Prop where
  ha : PySem.W.findIn K (.ref D) "__class__" = some (some (.builtin "object.__class__"))
  hn : PySem.W.specialIn K (.builtin "object.__class__") "__get__" = some (some (.builtin "getset_descriptor.__get__"))
  ht : PySem.W.takesIn K (.builtin "object.__class__") = some true
  hm : PySem.W.mroIn K D (.type "object") = some true
section
open PySem.W PySem.Calls
variable {prog : Program} {w : World} {A : Around} {E : Value → Shared → Prop} {s : Shared} {K : Frag} {x D : Addr} {ox : Obj} {od : Option Obj}
theorem exc_class {Q : Option Value → Shared → Prop} (T : OexC K D) (F : XfC K D) (Y : ErrI K D) (X : K.In s.heap) (J : InstAt s.heap x ox D od) (h : Q (some (.ref D)) { s with toks := s.toks + 1 }) : wpAny (model prog w) A (getAttr? (.ref x) "__class__") Q E s := by
  have bound : findObj K D od "__class__" = some (.bind (.builtin "getset_descriptor.__get__") (.builtin "object.__class__")) := by
    obtain ⟨_, _, _, _, _, _, _, _, _, _, _, _, _, _, _, at_, _⟩ := T.cls
    unfold findObj clsIn
    rw [at_]
    simp only [Option.bind_some, Y.ha, Y.hn, Y.ht]
  obtain ⟨g0, a0, d0, t0, o0⟩ := s
  have ty := J.type (M := model prog w); have ga := looks_findIn (M := model prog w) X F.ga; have gg := looks_findIn (M := model prog w) X F.gg; have fd := looks_find (M := model prog w) X J bound
  have below : Looks (model prog w) g0 (isInstance (.ref x) (.type "BaseException")) true := ty.andThen (looks_subIn X F.exC)
  have b2 : (Value.builtin "BaseException.__getattribute__" == Value.builtin "object.__getattribute__") = false := by decide +kernel
  unfold getAttr? getAttrBy? getAttrBy
  refine wpAny_bind (wpAny_mkText (wpAny_bind (wpAny_attempt (wpAny_holding (wpAny_bind (ty.at (wpAny_bind (ga.at ?_))))))))
  show wpAny _ _ (ite ((onTheHeap (Value.ref D) && Value.builtin "BaseException.__getattribute__" == Value.builtin "object.__getattribute__") = true) _ _) _ _ _
  rw [b2, Bool.and_false, if_neg Bool.false_ne_true]
  unfold getAttrByItsOwn hookBefore; refine wpAny_bind ?_; rw [if_pos (show onTheHeap (Value.ref D) = true from rfl)]
  refine gg.at (wpAny_bind (wpAny_attempt (wpAny_holding ?_)))
  unfold callGetattribute; rw [show (false && onTheHeap (Value.builtin "BaseException.__getattribute__")) = false from rfl, if_neg Bool.false_ne_true]
  unfold boundAndCalled; rw [PySem.F.excAttr_ValueError.ga.bind (.ref x)]; refine wpAny_bind (wpAny_pure ?_)
  show wpAny _ _ (call (.builtin "BaseException.__getattribute__") [.ref x, .str "__class__" t0]) _ _ _
  refine wpAny_call (codeAny_call_builtin PySem.F.excAttr_ValueError.ga.plain PySem.F.entry_bexc_ga (@check_slot (model prog w) _ _ ⟨g0, a0, d0, t0 + 1, o0⟩ "BaseException.__getattribute__" "BaseException" "__getattribute__" (.ref x) [.str "__class__" t0] [] _ (by decide +kernel) (by decide +kernel) below (PySem.F.args_bexc_ga (.ref x) (.str "__class__" t0)) ?_))
  unfold Builtin.«object.__getattribute__»; refine wpAny_bind (wpAny_of_eq (a := ((Value.ref x : Value), [Value.str "__class__" t0])) (by first | rfl | (simp only [slotArgs]; rfl)) ?_)
  refine wpAny_bind (wpAny_pure (wpAny_bind (ty.at (wpAny_bind (fd.at ?_))))); show wpAny _ _ (holding [Value.builtin "object.__class__"] (call (.builtin "getset_descriptor.__get__") [.builtin "object.__class__", .ref x, .ref D]) >>= ret) _ _ _
  refine wpAny_bind (wpAny_holding (wpAny_call (class_get (s := ⟨g0, a0, d0, t0 + 1, o0⟩) X J Y.hm (wpAny_pure ?_)))); show wpAny _ _ (handedOut (.ref D)) _ _ _; rw [handedOut_of (v := .ref D) rfl]
  first | exact wpAny_pure (wpAny_pure h) | exact wpAny_pure h | exact wpAny_pure (wpAny_bind (wpAny_pure (wpAny_pure h)))
theorem kitx_err (T : OexC K D) (F : XfC K D) (Y : ErrI K D) : KitX K (.ref x) (.ref D) (fun h => ∃ od, InstAt h x ox D od) where
  ty := fun _ _ _ ⟨_, J⟩ => J.type
  it := fun _ _ X _ => by
    obtain ⟨_, _, _, _, _, _, _, _, _, _, _, _, _, _, _, at_, _⟩ := T.cls
    intro A' Q' E' s' k q
    exact PySem.ks_wpAny_isType_cls (k _ _ (X _ _ at_)) rfl q
  ne := fun h tp dd its n sl X htp => Bool.eq_false_iff.mpr fun q => by
    obtain ⟨_, _, _, _, _, _, _, _, _, _, _, _, _, _, _, at_, _⟩ := T.cls
    have e : D = tp := Value.ref.inj (beq_iff_eq.mp q)
    subst e
    have z := congrArg Obj.data (Option.some.inj ((X _ _ at_).symm.trans htp))
    cases z
  ca := fun X ⟨_, J⟩ k => exc_class T F Y X J k
theorem kit_own {C : Addr} {b : Bool} (h1 : subIn K (.ref D) (.ref C) = some b) (h2 : isClsIn K C = true) (h3 : typeIn K (.ref C) = some (.type "type")) (h4 : subIn K (.ref D) (.ref D) = some true) : kitOne K (.ref D) (.ref C) = some b := by
  unfold kitOne
  by_cases e : D = C
  · subst e
    rw [if_pos (beq_self_eq_true _), ← h1, h4]
  · rw [if_neg (show ¬ (Value.ref D == Value.ref C) = true from fun z => e (Value.ref.inj (beq_iff_eq.mp z)))]
    show (if ((clsIn K C).isSome && typeIn K (.ref C) == some (.type "type")) = true then subIn K (.ref D) (.ref C) else none) = some b
    rw [show (clsIn K C).isSome = true from h2, h3, if_pos (by rfl)]
    exact h1
theorem kit_val (h : subIn K (.ref D) (.type "ValueError") = some true) : kitOne K (.ref D) (.type "ValueError") = some true := by
  unfold kitOne
  rw [if_neg (show ¬ (Value.ref D == Value.type "ValueError") = true from fun z => by cases beq_iff_eq.mp z)]
  show (if kitMeta "ValueError" = true then subIn K (.ref D) (.type "ValueError") else none) = some true
  rw [if_pos (by decide +kernel)]
  exact h
theorem kit_nil : kitAny K (.ref D) [] = some false := rfl
theorem kit_cons {c : Value} {cs : List Value} {b : Bool} (h : kitOne K (.ref D) c = some false) (r : kitAny K (.ref D) cs = some b) : kitAny K (.ref D) (c :: cs) = some b := by
  unfold kitAny
  rw [h]
  exact r
end
/-- isinstance(e, C) and isinstance(e, (C1, ..)), e the caught error at a -/
def rIsXd (K : PySem.W.Frag) (cls : Value) (d : Option Addr) (a : Addr) : List V → Hp → VK → Prop := fun xs H Q => ∃ (D : Addr) (dd : Addr) (fs : List (Str × V)) (b : Bool), cls = .ref D ∧ d = some dd ∧ OexC K D ∧ XfC K D ∧ ErrI K D ∧ H dd = some (.xd fs) ∧
  ((∃ (c : V) (cv : Value), xs = [.ref a, c] ∧ (∀ u, RelV c u → u = cv) ∧ PySem.W.kitOne K (.ref D) cv = some b) ∨ (∃ (tp : Addr) (cs : List V) (ws : List Value), xs = [.ref a, .ref tp] ∧ H tp = some (.tup cs) ∧ (∀ us, Vals cs us → us = ws) ∧ PySem.W.kitAny K (.ref D) ws = some b)) ∧ Q (.bl b) H
theorem call_isX {X : Cx} {a : Addr} {oe : Obj} {cls : Value} {d : Option Addr} {pn : List (Addr × Obj)} (hz : Zc cls d oe) (hf : ∃ vs, oe.data = .fields vs) : CallR (X.suite a ((a, oe) :: pn)) (.builtin "isinstance") (rIsXd X.K cls d a) := by
  intro pins s σ H xs us Q I r h
  obtain ⟨D, dd, fs, b, rfl, rfl, T, F, Y, hd, way, q⟩ := h
  obtain ⟨hget, _⟩ := I.pin (a, oe) (List.mem_append.mpr (.inl List.mem_cons_self))
  obtain ⟨vs, hv⟩ := hf
  obtain ⟨mA, hns, _⟩ := (show ObjOk X.prog X.w H s.heap dd (.xd fs) from I.hok dd _ hd)
  obtain ⟨od, ho, _⟩ := lookIn_ns hns
  have J : ∃ od, PySem.W.InstAt s.heap a oe D od := ⟨some od, hget, hz.1, by unfold PySem.W.notCls; rw [hv] <;> rfl, by rw [hz.2]; exact ho⟩
  have Z := kitx_err (x := a) (ox := oe) T F Y
  rcases way with ⟨c, cv, rfl, hc, e⟩ | ⟨tp, cs, ws, rfl, ht, hw, e⟩
  · obtain ⟨u1, u2, rfl, r1, r2⟩ := vals2 r
    cases r1
    rw [hc _ r2]
    exact PySem.W.kia_one Z I.kIn J e (fun z => nomatch z) fun tk => ⟨.bl b, H, I.tok tk, rfl, q⟩
  · obtain ⟨u1, u2, rfl, r1, r2⟩ := vals2 r
    cases r1
    cases r2
    obtain ⟨_, its, rv, o, h1, h2, n, h3⟩ := (show ObjOk X.prog X.w H s.heap tp (.tup cs) from I.hok tp _ ht)
    rw [hw _ rv] at h3
    obtain ⟨oc, od', dt, sl⟩ := o
    simp only at h2 h3
    subst h2 h3
    exact PySem.W.kia_tup Z I.kIn J h1 e (fun z => nomatch z) fun tk => ⟨.bl b, H, I.tok tk, rfl, q⟩


/-! ### attributes by their places -/
theorem lk_ix {fs : List (Str × V)} {f : Str} {v : V} (nd : (fs.map (·.1)).Nodup) (i : Nat) (h : fs[i]? = some (f, v)) : fs.lookup f = some v := by
  induction fs generalizing i with
  | nil => simp at h
  | cons p r ih =>
    obtain ⟨g, x⟩ := p
    rw [List.map_cons, List.nodup_cons] at nd
    cases i with
    | zero =>
      cases h
      have hb : (f == f) = true := beq_self_eq_true f
      simp only [List.lookup, hb]
    | succ i =>
      rw [List.getElem?_cons_succ] at h
      have hm : f ∈ r.map (·.1) := List.mem_map.mpr ⟨(f, v), List.mem_of_getElem? h, rfl⟩
      have hb : (f == g) = false := beq_eq_false_iff_ne.mpr fun e => nd.1 (e ▸ hm)
      simp only [List.lookup, hb]
      exact ih nd.2 i h
theorem lk_none {fs : List (Str × V)} {f : Str} (h : f ∉ fs.map (·.1)) : fs.lookup f = none := by
  induction fs with
  | nil => rfl
  | cons p r ih =>
    obtain ⟨g, x⟩ := p
    rw [List.map_cons, List.mem_cons, not_or] at h
    have hb : (f == g) = false := beq_eq_false_iff_ne.mpr h.1
    simp only [List.lookup, hb]
    exact ih h.2
theorem pf_ix {fs : List (Str × V)} {f : Str} {v x : V} (nd : (fs.map (·.1)).Nodup) (i : Nat) (h : fs[i]? = some (f, x)) : putF f v fs = fs.set i (f, v) := by
  induction fs generalizing i with
  | nil => simp at h
  | cons p r ih =>
    obtain ⟨g, y⟩ := p
    rw [List.map_cons, List.nodup_cons] at nd
    cases i with
    | zero =>
      cases h
      show (if f = f then _ else _) = _
      rw [if_pos rfl]
      rfl
    | succ i =>
      rw [List.getElem?_cons_succ] at h
      have hm : f ∈ r.map (·.1) := List.mem_map.mpr ⟨(f, x), List.mem_of_getElem? h, rfl⟩
      show (if g = f then _ else _) = _
      rw [if_neg (show ¬ g = f from fun e => nd.1 (e ▸ hm)), ih nd.2 i h]
      rfl
theorem pf_new {fs : List (Str × V)} {f : Str} {v : V} (h : f ∉ fs.map (·.1)) : putF f v fs = fs ++ [(f, v)] := by
  induction fs with
  | nil => rfl
  | cons p r ih =>
    obtain ⟨g, y⟩ := p
    rw [List.map_cons, List.mem_cons, not_or] at h
    show (if g = f then _ else _) = _
    rw [if_neg (show ¬ g = f from fun e => h.1 e.symm), ih h.2]
    rfl


def okInt : V → Prop := fun v => ∃ i : Int, v = .int i ∧ (0 ≤ i ∧ i < 100000)
theorem okInt_log {i : Int} (h : 0 ≤ i ∧ i < 100000) : i.natAbs.log2 < 1920 := by
  by_cases z : i.natAbs = 0
  · rw [z]; decide
  · exact (Nat.log2_lt z).mpr (Nat.lt_of_lt_of_le (show i.natAbs < 2 ^ 17 by omega) (Nat.pow_le_pow_right (by decide) (by decide)))
theorem okInt_len {i : Int} (a : Str) (h : 0 ≤ i ∧ i < 100000) (ha : decide (a.length ≤ 1000) = true) : (a ++ Str.ofString (toString i)).length ≤ sizeLine := by
  obtain ⟨n, rfl⟩ : ∃ n : Nat, i = (n : Int) := ⟨i.toNat, by omega⟩
  have h1 := (num_asc n (by omega)).2
  have h2 : a.length ≤ 1000 := of_decide_eq_true ha
  rw [app_len, sizeLine_eq]
  omega
def Bd (n : Int) : Prop := 0 ≤ n ∧ n < 65536

theorem iteS {a : Str} {A B : Prop} (h : A) : if decide (V.str a = V.str a) = true then A else B := by
  rw [decide_eq_true rfl]
  exact iteT h
theorem iteN {a b : Str} {A B : Prop} (n : a ≠ b) (h : B) : if decide (V.str a = V.str b) = true then A else B := by
  rw [decide_eq_false fun z => n (V.str.inj z)]
  exact iteF h
theorem str_eq {a b : Str} (z : decide (V.str a = V.str b) = true) : a = b := V.str.inj (of_decide_eq_true z)
theorem strs_flat (ts : List Str) : (ts.map V.str).all flatV = true := by
  rw [List.all_eq_true]
  intro v m
  obtain ⟨x, _, rfl⟩ := List.mem_map.mp m
  rfl
theorem small_str {k : Int} (h0 : 0 ≤ k) (h1 : k < 1000) : (Str.ofString (toString k)).length ≤ 6 ∧ k.natAbs.log2 < 1920 := by
  obtain ⟨m, rfl⟩ := Int.eq_ofNat_of_zero_le h0
  constructor
  · have e : (Str.ofString (toString ((m : Nat) : Int))).cps.toList = TL.numL m := TL.tl_num m
    show (Str.ofString (toString ((m : Nat) : Int))).cps.toList.length ≤ 6
    rw [e]
    exact TL.numL_len (by decide) (by omega)
  · have : m.log2 ≤ 1919 := PySem.W.mg_log (Nat.lt_of_lt_of_le (show m < 1000 by omega) (by decide +kernel))
    show m.log2 < 1920
    omega
def NumL (x : Str) (r : V) : Prop := (∃ n : Nat, n ≤ 65535 ∧ x.cps.toList = TL.numL n ∧ r = .int n) ∨ ((∀ n : Nat, n ≤ 65535 → x.cps.toList ≠ TL.numL n) ∧ r = .int (-1))
def cuF (wl z1 z2 : Addr) (i : Int) : List (Str × V) := [("_words", .ref wl), ("options", .ref z1), ("variables", .ref z2), ("sees", .bl false), ("at", .int i)]
theorem cuNd {wl z1 z2 : Addr} {i : Int} : ((cuF wl z1 z2 i).map (·.1)).Nodup := by
  show (["_words", "options", "variables", "sees", "at"] : List Str).Nodup
  decide +kernel
/-- a cursor at its place -/
def CuS (C : Addr) (H : Hp) (a wl : Addr) (ws : List Str) (i : Nat) : Prop := ∃ dx z1 z2, H a = some (.ins C dx (cuF wl z1 z2 i)) ∧ H wl = some (.lst (ws.map V.str))
theorem CuS.same {C : Addr} {H H' : Hp} {a wl : Addr} {ws : List Str} {i : Nat} (h : CuS C H a wl ws i) (s : Same H H') : CuS C H' a wl ws i := by
  obtain ⟨dx, z1, z2, e, f⟩ := h
  exact ⟨dx, z1, z2, s _ _ e, s _ _ f⟩
def hereV (ws : List Str) (i : Nat) : V := match ws[i]? with
  | some x => .str x
  | none => .non
inductive Deed where
  | word (w : Str)
  | num (l m : Int)
  | name (ns : List Str)
  | fresh (ns : List Str)
/-- what a deed gives at a word that fits -/
def Fit : Deed → Str → V → Prop
  | .word w, x, v => x = w ∧ v = .non
  | .num l m, x, v => ∃ n : Nat, n ≤ 65535 ∧ x.cps.toList = TL.numL n ∧ l ≤ (n : Int) ∧ (n : Int) ≤ m ∧ v = .int n
  | .name ns, x, v => x ∈ ns ∧ v = .str x
  | .fresh ns, x, v => NameP x ∧ x ∉ ns ∧ v = .str x
def Wds (ws : List Str) : Prop := ∀ x ∈ ws, Asc x ∧ x.length ≤ 100

theorem none_back {H H' : Hp} {d : Addr} (s : Same H H') (h : H' d = none) : H d = none := by
  cases e : H d with
  | none => rfl
  | some o => rw [s _ _ e] at h; cases h
theorem cu_no {wl z1 z2 : Addr} {i : Int} {m : Str} (h : m ∉ (["_words", "options", "variables", "sees", "at"] : List Str)) : (cuF wl z1 z2 i).lookup m = none := lk_none h
theorem cu_meths : ("_pass_if" : Str) ∉ (["_words", "options", "variables", "sees", "at"] : List Str) ∧ ("take_word" : Str) ∉ (["_words", "options", "variables", "sees", "at"] : List Str) ∧ ("take_number" : Str) ∉ (["_words", "options", "variables", "sees", "at"] : List Str) ∧ ("take_name" : Str) ∉ (["_words", "options", "variables", "sees", "at"] : List Str) ∧ ("take_new_name" : Str) ∉ (["_words", "options", "variables", "sees", "at"] : List Str) := by decide +kernel
theorem here_scal {ws : List Str} {i : Nat} {w : Str} : scal (hereV ws i) (.str w) = true := by
  unfold hereV
  split <;> rfl
/-- what a deed comes to: passed, or refused at the place -/
def DeedK (C B : Addr) (H : Hp) (a wl : Addr) (ws : List Str) (i : Nat) (dd : Deed) (Q : VK) (E : XK) : Prop :=
  (∀ x v, ws[i]? = some x → Fit dd x v → ∀ H', But a H H' → CuS C H' a wl ws (i + 1) → Q v H') ∧
  ((∀ x v, ws[i]? = some x → ¬ Fit dd x v) → ∀ d H', Same H H' → H d = none → H' d = some (.xd [("at", .int (i : Nat))]) → E (.ref B) (some d) H')

theorem dp_strs {K : PySem.W.Frag} {H : Hp} : ∀ ws : List Str, DpAll K H (ws.map V.str) (ws.map PyData.str)
  | [] => .nil
  | w :: r => .cons (.str w) (dp_strs r)
theorem asc_ok {x : Str} (h : Asc x) : PyData.strOk x = true := by
  unfold PyData.strOk
  rw [Array.all_eq_true_iff_forall_mem]
  intro c m
  have := h c (Array.mem_toList_iff.mpr m)
  simp
  omega
theorem d_room {A : Around} {k : Nat} (h : Room k A) : A.units + 1 < cLine := by
  have := h.un
  omega
theorem eq_room {A : Around} {k : Nat} (h : Room k A) : A.units + 64 < cLine := by
  have := h.un
  omega
theorem strs_lay {ns : List Str} (h : ∀ x ∈ ns, Asc x) (l : ns.length ≤ 1000) : Lay 1 (.list (ns.map PyData.str)) := lay_list (n := 0) (by rw [List.length_map]; omega) fun d m => by
  obtain ⟨w, mw, rfl⟩ := List.mem_map.mp m
  exact lay_str (asc_ok (h w mw))
def hereD (ws : List Str) (i : Nat) : PyData := match ws[i]? with
  | some x => .str x
  | none => .none
theorem here_da {H : Hp} {ws : List Str} {i : Nat} : Da H (hereV ws i) (hereD ws i) := by
  unfold hereV hereD
  split
  · exact .str _
  · exact .non
theorem here_ok {ws : List Str} {i : Nat} : (hereD ws i).depth < 8 ∧ wide (hereD ws i) = true := by
  unfold hereD
  split
  · exact ⟨by simp [PyData.depth], by simp [wide]⟩
  · exact ⟨by simp [PyData.depth], by simp [wide]⟩
theorem here_cases {ws : List Str} {i : Nat} (h : Wds ws) : hereV ws i = .non ∨ ∃ x, hereV ws i = .str x ∧ x.length ≤ 100 ∧ Asc x := by
  unfold hereV
  split
  · rename_i x e
    exact .inr ⟨x, rfl, (h x (List.mem_of_getElem? e)).2, (h x (List.mem_of_getElem? e)).1⟩
  · exact .inl rfl
theorem here_some {ws : List Str} {i : Nat} {x : Str} (h : hereV ws i = .str x) : ws[i]? = some x := by
  unfold hereV at h
  split at h
  · rename_i y e
    rw [e, V.str.inj h]
  · cases h
theorem here_of {ws : List Str} {i : Nat} {x : Str} (h : ws[i]? = some x) : hereV ws i = .str x := by
  unfold hereV
  rw [h]
/-- the law's own word of a deed -/
def DueR (H H2 : Hp) (hv : V) (dd : Deed) (dv : V) : Prop := (∃ x v pd, hv = .str x ∧ Fit dd x v ∧ dv = .ref pd ∧ H2 pd = some (.tup [.str "passed", v])) ∨ ((∀ x v, hv = .str x → ¬ Fit dd x v) ∧ dv = .non)
theorem due_both {H : Hp} {hv : V} {dd : Deed} {Q : VK} (h : ∀ dv H2, Same H H2 → DueR H H2 hv dd dv → Q dv H2) : (∀ x v, hv = .str x → Fit dd x v → ∀ p H', Same H H' → H' p = some (.tup [.str "passed", v]) → Q (.ref p) H') ∧ ((∀ x v, hv = .str x → ¬ Fit dd x v) → ∀ H', Same H H' → Q .non H') :=
  ⟨fun x v e f p H' s g => h _ _ s (.inl ⟨x, v, p, e, f, rfl, g⟩), fun nf H' s => h _ _ s (.inr ⟨nf, rfl⟩)⟩
/-- the program's -/
def DoneR (C : Addr) (H H2 : Hp) (a wl : Addr) (ws : List Str) (i : Nat) (dd : Deed) (pa : Addr) : Prop := (∃ x v, ws[i]? = some x ∧ Fit dd x v ∧ But a H H2 ∧ CuS C H2 a wl ws (i + 1) ∧ H2 pa = some (.tup [.str "passed", v])) ∨ ((∀ x v, ws[i]? = some x → ¬ Fit dd x v) ∧ Same H H2 ∧ H2 pa = some (.tup [.str "refused", .int (i : Nat), .bl true]))
theorem done_both {C : Addr} {H : Hp} {a wl : Addr} {ws : List Str} {i : Nat} {dd : Deed} {Q : VK} (h : ∀ pa H2, DoneR C H H2 a wl ws i dd pa → Q (.ref pa) H2) : (∀ x v, ws[i]? = some x → Fit dd x v → ∀ p H', But a H H' → CuS C H' a wl ws (i + 1) → H' p = some (.tup [.str "passed", v]) → Q (.ref p) H') ∧
  ((∀ x v, ws[i]? = some x → ¬ Fit dd x v) → ∀ p H', Same H H' → H' p = some (.tup [.str "refused", .int (i : Nat), .bl true]) → Q (.ref p) H') :=
  ⟨fun x v e f p H' b c g => h _ _ (.inl ⟨x, v, e, f, b, c, g⟩), fun nf p H' s g => h _ _ (.inr ⟨nf, s, g⟩)⟩
theorem fit_uniq {dd : Deed} {x : Str} {v w : V} (a : Fit dd x v) (b : Fit dd x w) : v = w := by
  cases dd with
  | word => exact a.2.trans b.2.symm
  | num =>
    obtain ⟨n, _, e, _, _, r⟩ := a
    obtain ⟨m, _, g, _, _, t⟩ := b
    rw [r, t, TL.numL_inj (e.symm.trans g)]
  | name => exact a.2.trans b.2.symm
  | fresh => exact a.2.2.trans b.2.2.symm
theorem fit_da {dd : Deed} {x : Str} {v : V} {H : Hp} (a : Fit dd x v) : ∃ D : PyData, Da H v D ∧ D.depth = 0 ∧ wide D = true := by
  cases dd with
  | word => rw [a.2]; exact ⟨_, .non, by simp [PyData.depth], by simp [wide]⟩
  | num =>
    obtain ⟨n, _, e, _, _, r⟩ := a
    rw [r]
    exact ⟨_, .int _, by simp [PyData.depth], by simp [wide]⟩
  | name => rw [a.2]; exact ⟨_, .str _, by simp [PyData.depth], by simp [wide]⟩
  | fresh => rw [a.2.2]; exact ⟨_, .str _, by simp [PyData.depth], by simp [wide]⟩
theorem ixN_zero {n : Nat} (h : 0 < n) : ixN n 0 = some 0 := by
  unfold ixN
  rw [if_pos (Int.le_refl 0), if_pos (by omega)]
  rfl

/-! ### a call with keywords that may raise -/
def tCallNT (n m : Nat) (sp : Sp) (gV : List V → List V → List V) (E : L2.St → XK) (t tk : TA) : TE := fun σ H Q => t σ H fun vs H1 => tk σ H1 fun zs H2 => vs.length = n ∧ zs.length = m ∧ sp (gV vs zs) H2 Q (E σ)
section
variable {X : Cx} {CX : CXT} {k n : Nat} {f : Addr} {fd : FuncData} {ps ks : List Str} {sp : Sp} {E : L2.St → XK} {x : Str} {p pos : Pos} {e : Expr} {es : List Expr} {kws : List Keyword} {t tk : TA} {g : List Value → List Value → List Value} {gV : List V → List V → List V}
theorem run_fnNT {pins : List (Addr × Obj)} {σ : L2.St} {H : Hp} {s : Shared} {Q : VK} {us ws : List Value} {vs zs : List V} (F : FnOk X.prog X.w X.K X.mg X.base CX k f fd ps sp) (hr : Room k X.A) (hb : KBn X.K fd ps n ks g gV) (hx : PassesAt CX X σ (E σ))
    (I : Inv X pins σ H s) (r : Vals vs us) (rz : Vals zs ws) (l1 : vs.length = n) (l2 : zs.length = ks.length) (h : sp (gV vs zs) H Q (E σ)) : wpAny (model X.prog X.w) X.A (call (.ref f) us (ks.zip ws)) (EP X pins σ Q) X.xe s := by
  have r2 := hb.rel r rz
  refine wpAny_call (codeAny_mono (F.run X.A X.stack s H ⟨us, ks.zip ws⟩ (g us ws) (gV vs zs) Q (E σ) hr I.env0 (hb.to s us ws I.kIn (r.length.symm.trans l1) (rz.length.symm.trans l2)) r2 h) fun r s' hq => ?_)
  cases r with
  | error e => exact hx pins H s e s' I hq
  | ok fl =>
    cases fl with
    | ret u => exact I.after hq
    | next => exact False.elim hq
    | brk => exact False.elim hq
    | cont => exact False.elim hq
theorem pe_callNT (F : FnOk X.prog X.w X.K X.mg X.base CX k f fd ps sp) (hr : Room k X.A) (hg : Gl X x) (hm : X.mg x = some (.ref f)) (hk : PySem.W.keepIn X.K (.ref f) = true) (hb : KBn X.K fd ps n ks g gV) (hx : ∀ σ, PassesAt CX X σ (E σ))
    (ha : PA X (e :: es) t) (hkw : PK X kws tk) (hall : (backToKw pos (keywordEach kws X.env)).all (·.1.isSome) = true := by rfl) (hks : (backToKw pos (keywordEach kws X.env)).filterMap (·.1) = ks := by rfl)
    (hdb : (x == ("__debug__" : Str)) = false := by decide) (he : starEach (e :: es) X.env = (false, eval e X.env) :: starEach es X.env := by rfl)
    (hpl : ((backTo pos (starEach (e :: es) X.env)).any (·.1) || (backToKw pos (keywordEach kws X.env)).any (·.1.isNone)) = false := by rfl) :
    PE X (.Call (.Name x p) (e :: es) kws pos) (tCallNT n ks.length sp gV E t tk) := by
  refine ⟨fun pins s σ H Q I h => ?_⟩
  refine wpAny_Call_Name_kw (ld_glob I hg hm ?_ hdb)
  refine PySem.W.callWith_KW (h₀ := X.base) I.ok.mod.kin hk hall (thn (ha.run pos pins s σ H _ I h) fun us s1 ⟨vs, H1, I1, r, q⟩ => ?_) hpl he
  refine thn (hkw.run pos pins s1 σ H1 _ I1 q) fun ws s2 ⟨zs, H2, I2, rz, l1, l2, q2⟩ => ⟨I2.kIn, ?_⟩
  rw [hks]
  exact run_fnNT F hr hb (hx σ) I2 r rz l1 l2 q2
end


/-! ### expressions -/
def opL : List Str := ["+", "-", "*", "/", "mod", "<", "="]
/-- an expression -/
inductive Ex where
  | num (n : Int) | var (x : Str) | long | view (e : Ex) | pick (x : Str) (a b : Ex) | op (s : Str) (a b : Ex)
def Ex.deep : Ex → Nat
  | .num _ => 1 | .var _ => 1 | .long => 1 | .view e => e.deep + 1 | .pick _ a b => max a.deep b.deep + 1 | .op _ a b => max a.deep b.deep + 1
def Ex.Wf (ns ps : List Str) : Ex → Prop
  | .num n => 0 ≤ n ∧ n < 65536
  | .var x => x ∈ ns
  | .long => True
  | .view e => e.Wf ns ps
  | .pick x a b => x ∈ ps ∧ a.Wf ns ps ∧ b.Wf ns ps
  | .op s a b => s ∈ opL ∧ a.Wf ns ps ∧ b.Wf ns ps
/-- it stands at v -/
inductive Ev (H : Hp) : V → Ex → Prop
  | num {a : Addr} {n : Int} : H a = some (.tup [.str "number", .int n]) → Ev H (.ref a) (.num n)
  | var {a : Addr} {x : Str} : H a = some (.tup [.str "variable", .str x]) → Ev H (.ref a) (.var x)
  | long {a : Addr} : H a = some (.tup [.str "long"]) → Ev H (.ref a) .long
  | view {a : Addr} {v : V} {e : Ex} : H a = some (.tup [.str "view", v]) → Ev H v e → Ev H (.ref a) (.view e)
  | pick {a : Addr} {x : Str} {v w : V} {e f : Ex} : H a = some (.tup [.str "pick", .str x, v, w]) → Ev H v e → Ev H w f → Ev H (.ref a) (.pick x e f)
  | op {a : Addr} {s : Str} {v w : V} {e f : Ex} : H a = some (.tup [.str s, v, w]) → Ev H v e → Ev H w f → Ev H (.ref a) (.op s e f)
theorem Ev.keep {H H' : Hp} (k : KeepT H H') : ∀ {v : V} {e : Ex}, Ev H v e → Ev H' v e
  | _, _, .num h => .num (k _ _ h)
  | _, _, .var h => .var (k _ _ h)
  | _, _, .long h => .long (k _ _ h)
  | _, _, .view h a => .view (k _ _ h) (Ev.keep k a)
  | _, _, .pick h a b => .pick (k _ _ h) (Ev.keep k a) (Ev.keep k b)
  | _, _, .op h a b => .op (k _ _ h) (Ev.keep k a) (Ev.keep k b)
theorem opL_ne {s : Str} (h : s ∈ opL) : s ≠ "number" ∧ s ≠ "variable" ∧ s ≠ "long" ∧ s ≠ "view" ∧ s ≠ "pick" := by
  have : opL.all (fun s => decide (s ≠ "number" ∧ s ≠ "variable" ∧ s ≠ "long" ∧ s ≠ "view" ∧ s ≠ "pick")) = true := by decide +kernel
  exact of_decide_eq_true (List.all_eq_true.mp this s h)
theorem num_ne : ("variable" : Str) ≠ "number" ∧ ("long" : Str) ≠ "number" ∧ ("view" : Str) ≠ "number" ∧ ("pick" : Str) ≠ "number" ∧ ("long" : Str) ≠ "variable" ∧ ("view" : Str) ≠ "variable" ∧ ("pick" : Str) ≠ "variable" ∧ ("view" : Str) ≠ "long" ∧ ("pick" : Str) ≠ "long" ∧ ("pick" : Str) ≠ "view" := by decide +kernel
theorem str_ne {a b : Str} (h : a ≠ b) : ¬ decide (V.str a = V.str b) = true := fun z => h (V.str.inj (of_decide_eq_true z))


/-! ### a cursor with options, variables and sight -/
structure CuI where
  a : Addr
  wl : Addr
  z1 : Addr
  z2 : Addr
  ops : List Str
  vars : List Str
  ws : List Str
  se : Bool
def cuG (wl z1 z2 : Addr) (se : Bool) (i : Int) : List (Str × V) := [("_words", .ref wl), ("options", .ref z1), ("variables", .ref z2), ("sees", .bl se), ("at", .int i)]
theorem cgNd {wl z1 z2 : Addr} {se : Bool} {i : Int} : ((cuG wl z1 z2 se i).map (·.1)).Nodup := by
  show (["_words", "options", "variables", "sees", "at"] : List Str).Nodup
  decide +kernel
theorem cg_no {wl z1 z2 : Addr} {se : Bool} {i : Int} {m : Str} (h : m ∉ (["_words", "options", "variables", "sees", "at"] : List Str)) : (cuG wl z1 z2 se i).lookup m = none := lk_none h
/-- a cursor at its place -/
def CuX (K : PySem.W.Frag) (C : Addr) (H : Hp) (c : CuI) (i : Nat) : Prop := i ≤ c.ws.length ∧ (∃ dx, H c.a = some (.ins C dx (cuG c.wl c.z1 c.z2 c.se i))) ∧ H c.wl = some (.lst (c.ws.map V.str)) ∧ SqT K H c.z1 (c.ops.map V.str) ∧ SqT K H c.z2 (c.vars.map V.str)
theorem sqT_same' {K : PySem.W.Frag} {H H' : Hp} {a : Addr} {xs : List V} (h : SqT K H a xs) (s : Same H H') : SqT K H' a xs := by
  rcases h with (h | ⟨o, h⟩) | h
  · exact .inl (.inl (s _ _ h))
  · exact .inl (.inr ⟨o, s _ _ h⟩)
  · exact .inr h
theorem sqT_keep {K : PySem.W.Frag} {H H' : Hp} {z : Addr} {xs : List V} (h : SqT K H z xs) (k : ∀ o, H z = some o → (∃ ys, o = .tup ys) ∨ (∃ q ys, o = .frz q (.tup ys)) → H' z = some o) : SqT K H' z xs := by
  rcases h with (h | ⟨o, h⟩) | h
  · exact .inl (.inl (k _ h (.inl ⟨_, rfl⟩)))
  · exact .inl (.inr ⟨o, k _ h (.inr ⟨_, _, rfl⟩)⟩)
  · exact .inr h
/-- a tuple stays where an instance is changed -/
theorem sqT_ins {K : PySem.W.Frag} {H H' : Hp} {z a C dx : Addr} {fs : List (Str × V)} {xs : List V} (h : SqT K H z xs) (ha : H a = some (.ins C dx fs)) (b : But a H H') : SqT K H' z xs := sqT_keep h fun o e w => b _ _ (fun y => by
  rw [y, ha] at e
  cases e
  rcases w with ⟨ys, w⟩ | ⟨q, ys, w⟩ <;> cases w) e
theorem sqL_ins {K : PySem.W.Frag} {H H' : Hp} {z a C dx : Addr} {fs : List (Str × V)} {xs : List V} (h : SqL K H z xs) (ha : H a = some (.ins C dx fs)) (b : But a H H') : SqL K H' z xs := by
  rcases h with (h | ⟨o, h⟩) | h
  · exact .inl (.inl (b _ _ (fun y => by rw [y, ha] at h; cases h) h))
  · exact .inl (.inr ⟨o, b _ _ (fun y => by rw [y, ha] at h; cases h) h⟩)
  · exact .inr h
theorem sqT_lst {K : PySem.W.Frag} {H H' : Hp} {z a : Addr} {ys xs : List V} (h : SqT K H z xs) (ha : H a = some (.lst ys)) (b : But a H H') : SqT K H' z xs := sqT_keep h fun o e w => b _ _ (fun y => by
  rw [y, ha] at e
  cases e
  rcases w with ⟨ys, w⟩ | ⟨q, ys, w⟩ <;> cases w) e
theorem CuX.same {K : PySem.W.Frag} {C : Addr} {H H' : Hp} {c : CuI} {i : Nat} (h : CuX K C H c i) (s : Same H H') : CuX K C H' c i := by
  obtain ⟨l, ⟨dx, e⟩, f, g, k⟩ := h
  exact ⟨l, ⟨dx, s _ _ e⟩, s _ _ f, sqT_same' g s, sqT_same' k s⟩
theorem CuX.keepT {K : PySem.W.Frag} {C : Addr} {H H' : Hp} {c : CuI} {i : Nat} (h : CuX K C H c i) (b : But c.a H H') : KeepT H H' := by
  obtain ⟨l, ⟨dx, e⟩, _⟩ := h
  exact fun z xs g => b z _ (fun y => by rw [y, e] at g; cases g) g
theorem CuX.butL {K : PySem.W.Frag} {C : Addr} {H H' : Hp} {c : CuI} {i : Nat} {p : Addr} {ys : List V} (h : CuX K C H c i) (hp : H p = some (.lst ys)) (b : But p H H') (n2 : c.wl ≠ p) : CuX K C H' c i := by
  obtain ⟨l, ⟨dx, e⟩, f, g, k⟩ := h
  exact ⟨l, ⟨dx, b _ _ (fun z => by rw [z, hp] at e; cases e) e⟩, b _ _ n2 f, sqT_lst g hp b, sqT_lst k hp b⟩
theorem CuX.butI {K : PySem.W.Frag} {C D : Addr} {H H' : Hp} {c : CuI} {i : Nat} {p dx : Addr} {fs : List (Str × V)} (h : CuX K C H c i) (hp : H p = some (.ins D dx fs)) (b : But p H H') (n : c.a ≠ p) : CuX K C H' c i := by
  obtain ⟨l, ⟨dx, e⟩, f, g, k⟩ := h
  exact ⟨l, ⟨dx, b _ _ n e⟩, b _ _ (fun z => by rw [z, hp] at f; cases f) f, sqT_ins g hp b, sqT_ins k hp b⟩
/-- what a deed comes to: passed, or refused at the place -/
def DeedX (K : PySem.W.Frag) (C B : Addr) (H : Hp) (c : CuI) (i : Nat) (dd : Deed) (Q : VK) (E : XK) : Prop :=
  (∀ x v, c.ws[i]? = some x → Fit dd x v → ∀ H', But c.a H H' → CuX K C H' c (i + 1) → Q v H') ∧
  ((∀ x v, c.ws[i]? = some x → ¬ Fit dd x v) → ∀ d H', Same H H' → H d = none → H' d = some (.xd [("at", .int (i : Nat))]) → E (.ref B) (some d) H')
theorem here_lt {ws : List Str} {i : Nat} {x : Str} (h : ws[i]? = some x) : i + 1 ≤ ws.length := by
  rcases Nat.lt_or_ge i ws.length with z | z
  · exact z
  · rw [List.getElem?_eq_none z] at h
    cases h

section
open PySem.AutoSeq1 PySem.MeetsSeq PySem.MeetsSeq2 PySem.MeetsSeq3 PySem.SeqAt
/-- list.extend by a tuple of any make -/
theorem ext_list_tup (l : Addr) (items : Array Value) (n : Nat) (b : Addr) (items2 : Array Value) (n2 : Nat) (od : Option Addr) (osl : Array (Option Value)) (hs0 : ¬(!items.isEmpty && Builtin.List.listTooLong (items.size + items2.size)) = true) (hs1 : items.size ≤ sizeLine) (hs2 : items.size + items2.size ≤ sizeLine + 1) :
    Meets (Builtin.«list.extend» ⟨[.ref l, .ref b], []⟩) (fun _ R s => s.heap.get? l = some { cls := .type "list", dict := none, data := .seq items n, slots := #[] } ∧ s.heap.get? b = some { cls := .type "tuple", dict := od, data := .seq items2 n2, slots := osl } ∧ R (.ok (.ret Value.none)) { s with heap := s.heap.update l (Obj.mapSeq fun x => x ++ items2), toks := s.toks }) :=
  .of_wp fun prog w A R s h => by
    obtain ⟨hp, g, d, tk, os⟩ := s; obtain ⟨hl, hb, h⟩ := h; have f1 := PySem.AutoSeq1.idx_int; have f2 := PySem.AutoSeq1.sub_tuple_tuple; have f3 := PySem.AutoSeq1.sub_list_list; have f4 := PySem.AutoSeq1.sub_tuple_list; have f5 := PySem.AutoSeq1.sub_list_tuple;
    have hz' : (items ++ items2).size ≤ sizeLine + 1 := by rw [Array.size_append]; exact hs2
    wp_walk using (wpAny_updateSeq hl rfl (hz := hs1) (_hz' := hz')), wpAny_loadPart' hl, wpAny_loadPart' hb; exact ⟨_, rfl, h⟩
end
section
variable {X : Cx}
def rExtT (K : PySem.W.Frag) : V → List V → Hp → VK → Prop := fun x vs H Q => ∃ l b xs zs, x = .ref l ∧ vs = [.ref b] ∧ H l = some (.lst xs) ∧ SqT K H b zs ∧ xs.length + zs.length ≤ sizeLine ∧ Q .non (upd H l (.lst (xs ++ zs)))
theorem mt_extendT : MtM X "list.extend" (rExtT X.K) := by
  intro pins s σ H x vs v us Q I rx rv h
  obtain ⟨l, b, xs, zs, rfl, rfl, hH, hB, hz, q⟩ := h
  cases rx
  obtain ⟨u, rfl, ru⟩ := rv.one
  cases ru
  obtain ⟨z, its, n, r, hl, e⟩ := I.lstM hH
  obtain ⟨its2, r2, ⟨⟨oc, od, oda, osl⟩, g1, g2, n2, g3⟩, hl2⟩ := I.tuple hB
  simp only at g2 g3
  subst g2 g3
  have e2 := r2.length
  have e1 := r.length
  have hsz : its.toArray.size + its2.toArray.size ≤ sizeLine := by rw [List.size_toArray, List.size_toArray]; omega
  have hlong : ¬ (!its.toArray.isEmpty && Builtin.List.listTooLong (its.toArray.size + its2.toArray.size)) = true := by
    rw [notLongL hsz, Bool.and_false]
    exact Bool.false_ne_true
  refine call_meets F.slot_list_extend ⟨_, e, rfl⟩ F.entry_list_extend (F.args_list_extend_2 _ _)
    (ext_list_tup l its.toArray n b its2.toArray n2 od osl hlong (by rw [List.size_toArray]; omega) (by omega)) ⟨e, g1, ?_⟩
  refine ⟨.non, _, I.lset (its' := its ++ its2) hH e (by simp) (r.append r2) ?_, rfl, q⟩
  rw [List.length_append]
  omega
end


/-! ### reading an expression -/
inductive RdR where
  | ok (e : Ex) (j : Nat)
  | bad (j : Nat)
@[irreducible] def numOf (x : Str) : Option Nat := (List.range 65536).find? fun n => decide (x.cps.toList = TL.numL n)
theorem numOf_some {x : Str} {n : Nat} (h : n ≤ 65535) (e : x.cps.toList = TL.numL n) : numOf x = some n := by
  unfold numOf
  cases f : (List.range 65536).find? (fun n => decide (x.cps.toList = TL.numL n)) with
  | none =>
    have := List.find?_eq_none.mp f n (List.mem_range.mpr (by omega))
    exact absurd (decide_eq_true e) this
  | some m =>
    have t : (fun n => decide (x.cps.toList = TL.numL n)) m = true := List.find?_some (p := fun n => decide (x.cps.toList = TL.numL n)) f
    rw [TL.numL_inj (e.symm.trans (of_decide_eq_true t))]
theorem numOf_none {x : Str} (h : ∀ n : Nat, n ≤ 65535 → x.cps.toList ≠ TL.numL n) : numOf x = none := by
  unfold numOf
  exact List.find?_eq_none.mpr fun n m z => h n (by have := List.mem_range.mp m; omega) (of_decide_eq_true z)
theorem numOf_of {x : Str} {n : Nat} (h : numOf x = some n) : n ≤ 65535 ∧ x.cps.toList = TL.numL n := by
  unfold numOf at h
  have := List.mem_range.mp (List.mem_of_find?_eq_some h)
  have t : (fun n => decide (x.cps.toList = TL.numL n)) n = true := List.find?_some (p := fun n => decide (x.cps.toList = TL.numL n)) h
  exact ⟨by omega, of_decide_eq_true t⟩
def opens (se po : Bool) (room : Nat) : List Str := (if se = true then (["long"] : List Str) else []) ++ (if 1 < room then opL ++ (if po = true then (["pick"] : List Str) else []) ++ (if se = true then (["view"] : List Str) else []) else [])
def twoR (f : Ex → Ex → Ex) (g : Nat → RdR) (i : Nat) : RdR := match g i with
  | .bad j => .bad j
  | .ok a j => match g j with
    | .bad j' => .bad j'
    | .ok b j' => .ok (f a b) j'
def oneR (f : Ex → Ex) (g : Nat → RdR) (i : Nat) : RdR := match g i with
  | .bad j => .bad j
  | .ok a j => .ok (f a) j
def partsR (c : CuI) (g : Nat → RdR) (x : Str) (i : Nat) : RdR :=
  if x = "long" then .ok .long i else if x = "view" then oneR .view g i
  else if x = "pick" then (match c.ws[i]? with
    | none => .bad i
    | some o => if o ∈ c.ops then twoR (.pick o) g (i + 1) else .bad i)
  else twoR (.op x) g i
def readM (c : CuI) : Nat → Nat → RdR
  | 0, i => .bad i
  | k + 1, i => match c.ws[i]? with
    | none => .bad i
    | some x => if x ∈ c.vars then .ok (.var x) (i + 1) else if x ∈ opens c.se (!c.ops.isEmpty) (k + 1) then partsR c (readM c k) x (i + 1)
      else match numOf x with
        | some n => .ok (.num n) (i + 1)
        | none => .bad i
/-- what a reading comes to -/
def RdK (K : PySem.W.Frag) (C B : Addr) (H : Hp) (c : CuI) (r : RdR) (Q : VK) (E : XK) : Prop := match r with
  | .ok e j => ∀ v H', But c.a H H' → Ev H' v e → CuX K C H' c j → Q v H'
  | .bad j => ∀ d H', But c.a H H' → H' d = some (.xd [("at", .int (j : Nat))]) → E (.ref B) (some d) H'
theorem RdK.mono {K : PySem.W.Frag} {C B : Addr} {H H1 : Hp} {c : CuI} {r : RdR} {Q : VK} {E : XK} (b : But c.a H H1) (h : RdK K C B H c r Q E) : RdK K C B H1 c r Q E := by
  cases r with
  | ok e j => exact fun v H' b1 ev cu => h v H' (b.trans b1) ev cu
  | bad j => exact fun d H' b1 hd => h d H' (b.trans b1) hd
/-! ### the words of an expression -/
def Ex.rows : Ex → Nat → List (Str × Nat)
  | .num n, l => [(Str.ofString (toString n), l)]
  | .var x, l => [(x, l)]
  | .long, l => [("long", l)]
  | .view e, l => ("view", l + 1) :: e.rows (l + 1)
  | .pick x a b, l => ("pick", l + 1) :: (x, l) :: (a.rows (l + 1) ++ b.rows (l + 1))
  | .op s a b, l => (s, l + 1) :: (a.rows (l + 1) ++ b.rows (l + 1))
def Ex.words : Ex → List Str
  | .num n => [Str.ofString (toString n)]
  | .var x => [x]
  | .long => ["long"]
  | .view e => "view" :: e.words
  | .pick x a b => "pick" :: x :: (a.words ++ b.words)
  | .op s a b => s :: (a.words ++ b.words)
theorem rows_words : ∀ (e : Ex) (l : Nat), (e.rows l).map (·.1) = e.words
  | .num _, _ => rfl
  | .var _, _ => rfl
  | .long, _ => rfl
  | .view e, l => by
    show ("view" : Str) :: (e.rows (l + 1)).map (·.1) = ("view" : Str) :: e.words
    rw [rows_words e]
  | .pick x a b, l => by
    show ("pick" : Str) :: x :: (a.rows (l + 1) ++ b.rows (l + 1)).map (·.1) = ("pick" : Str) :: x :: (a.words ++ b.words)
    rw [List.map_append, rows_words a, rows_words b]
  | .op s a b, l => by
    show s :: (a.rows (l + 1) ++ b.rows (l + 1)).map (·.1) = s :: (a.words ++ b.words)
    rw [List.map_append, rows_words a, rows_words b]
theorem deep_posR (e : Ex) : 0 < e.deep := by cases e <;> simp [Ex.deep]
theorem two_max (a b : Nat) : 2 ^ (a + 1) ≤ 2 ^ (max a b + 1) ∧ 2 ^ (b + 1) ≤ 2 ^ (max a b + 1) := ⟨Nat.pow_le_pow_right (by decide) (by omega), Nat.pow_le_pow_right (by decide) (by omega)⟩
theorem words_len : ∀ e : Ex, e.words.length + 2 ≤ 2 ^ (e.deep + 1)
  | .num _ => (by show 1 + 2 ≤ 2 ^ 2; decide)
  | .var _ => (by show 1 + 2 ≤ 2 ^ 2; decide)
  | .long => (by show 1 + 2 ≤ 2 ^ 2; decide)
  | .view e => by
    have := words_len e
    show e.words.length + 1 + 2 ≤ 2 ^ (e.deep + 1 + 1)
    rw [Nat.pow_succ]
    omega
  | .pick x a b => by
    have h1 := words_len a
    have h2 := words_len b
    obtain ⟨m1, m2⟩ := two_max a.deep b.deep
    show (a.words ++ b.words).length + 1 + 1 + 2 ≤ 2 ^ (max a.deep b.deep + 1 + 1)
    rw [Nat.pow_succ, List.length_append]
    omega
  | .op s a b => by
    have h1 := words_len a
    have h2 := words_len b
    obtain ⟨m1, m2⟩ := two_max a.deep b.deep
    show (a.words ++ b.words).length + 1 + 2 ≤ 2 ^ (max a.deep b.deep + 1 + 1)
    rw [Nat.pow_succ, List.length_append]
    omega
theorem words_le {e : Ex} {n : Nat} (h : e.deep ≤ n) : e.words.length + 2 ≤ 2 ^ (n + 1) := Nat.le_trans (words_len e) (Nat.pow_le_pow_right (by decide) (by omega))
/-- only a brain's expressions see -/
def Ex.Se (se : Bool) : Ex → Prop
  | .num _ => True
  | .var _ => True
  | .long => se = true
  | .view e => se = true ∧ e.Se se
  | .pick _ a b => a.Se se ∧ b.Se se
  | .op _ a b => a.Se se ∧ b.Se se
/-- the first row that is too deep -/
def fbad (b : Nat) : List (Str × Nat) → Option Nat
  | [] => none
  | q :: r => if b < q.2 then some 0 else (fbad b r).map (· + 1)
theorem fbad_app (b : Nat) : ∀ (xs ys : List (Str × Nat)), fbad b (xs ++ ys) = match fbad b xs with
    | some j => some j
    | none => (fbad b ys).map (· + xs.length)
  | [], ys => by
    show fbad b ys = (fbad b ys).map (· + 0)
    cases fbad b ys <;> rfl
  | q :: r, ys => by
    have ih := fbad_app b r ys
    show (if b < q.2 then some 0 else (fbad b (r ++ ys)).map (· + 1)) = match (if b < q.2 then some 0 else (fbad b r).map (· + 1)) with
      | some j => some j
      | none => (fbad b ys).map (· + (r.length + 1))
    by_cases h : b < q.2
    · rw [if_pos h, if_pos h]
    · rw [if_neg h, if_neg h, ih]
      cases fbad b r with
      | some j => rfl
      | none =>
        cases fbad b ys with
        | none => rfl
        | some j => rfl
def SubAt (ws : List Str) (i : Nat) (xs : List Str) : Prop := ∀ (j : Nat) (x : Str), xs[j]? = some x → ws[i + j]? = some x
theorem SubAt.head {ws : List Str} {i : Nat} {x : Str} {xs : List Str} (h : SubAt ws i (x :: xs)) : ws[i]? = some x := h 0 x rfl
theorem SubAt.tail {ws : List Str} {i : Nat} {x : Str} {xs : List Str} (h : SubAt ws i (x :: xs)) : SubAt ws (i + 1) xs := fun j y e => by
  have := h (j + 1) y (by rw [List.getElem?_cons_succ]; exact e)
  rw [show i + 1 + j = i + (j + 1) by omega]
  exact this
theorem SubAt.left {ws : List Str} {i : Nat} {xs ys : List Str} (h : SubAt ws i (xs ++ ys)) : SubAt ws i xs := fun j y e => h j y (by
  rcases Nat.lt_or_ge j xs.length with z | z
  · rw [List.getElem?_append_left z]
    exact e
  · rw [List.getElem?_eq_none z] at e
    cases e)
theorem SubAt.right {ws : List Str} {i : Nat} {xs ys : List Str} (h : SubAt ws i (xs ++ ys)) : SubAt ws (i + xs.length) ys := fun j y e => by
  have := h (xs.length + j) y (by rw [List.getElem?_append_right (by omega), Nat.add_sub_cancel_left]; exact e)
  rw [Nat.add_assoc]
  exact this
theorem SubAt.mid (as xs bs : List Str) : SubAt (as ++ xs ++ bs) as.length xs := fun j y e => by
  have l : j < xs.length := by
    rcases Nat.lt_or_ge j xs.length with z | z
    · exact z
    · rw [List.getElem?_eq_none z] at e
      cases e
  rw [List.getElem?_append_left (by rw [List.length_append]; omega), List.getElem?_append_right (by omega), Nat.add_sub_cancel_left]
  exact e
def openAll : List Str := (["long", "view", "pick"] : List Str) ++ opL
theorem opens_all {se po : Bool} {room : Nat} {x : Str} (h : x ∈ opens se po room) : x ∈ openAll := by
  unfold opens at h
  unfold openAll
  have e1 : x ∈ (["long"] : List Str) → x ∈ ((["long", "view", "pick"] : List Str) ++ opL) := fun m => by simp_all
  have e2 : x ∈ (["pick"] : List Str) → x ∈ ((["long", "view", "pick"] : List Str) ++ opL) := fun m => by simp_all
  have e3 : x ∈ (["view"] : List Str) → x ∈ ((["long", "view", "pick"] : List Str) ++ opL) := fun m => by simp_all
  rcases List.mem_append.mp h with h | h
  · split at h
    · exact e1 h
    · cases h
  · split at h
    · rcases List.mem_append.mp h with h | h
      · rcases List.mem_append.mp h with h | h
        · exact List.mem_append_right _ h
        · split at h
          · exact e2 h
          · cases h
      · split at h
        · exact e3 h
        · cases h
    · cases h
theorem nm_head {x : Str} (h : Nm x) : x ∉ kwL ∧ ∃ d r, x.cps.toList = d :: r ∧ 97 ≤ d ∧ d ≤ 122 := by
  obtain ⟨⟨d, r, e, l, _⟩, k⟩ := h
  exact ⟨k, d, r, e, l.1, l.2⟩
theorem nm_open {x : Str} (h : Nm x) : x ∉ openAll := fun m => by
  have t : openAll.all (fun s => decide (s ∈ kwL) || !(decide (97 ≤ s.cps.toList.headD 0) && decide (s.cps.toList.headD 0 ≤ 122))) = true := by decide +kernel
  have := List.all_eq_true.mp t x m
  obtain ⟨k, d, r, e, l1, l2⟩ := nm_head h
  rw [e, decide_eq_false k] at this
  simp [l1, l2] at this
theorem open_num {x : Str} (m : x ∈ openAll) : numOf x = none := by
  refine numOf_none fun n _ e => ?_
  have t : openAll.all (fun s => decide (s.cps.toList ≠ [] ∧ ¬ (48 ≤ s.cps.toList.headD 0 ∧ s.cps.toList.headD 0 ≤ 57))) = true := by decide +kernel
  obtain ⟨t1, t2⟩ := of_decide_eq_true (List.all_eq_true.mp t x m)
  cases f : x.cps.toList with
  | nil => exact t1 f
  | cons d r =>
    rw [f] at t2
    exact t2 (TL.numL_digits n d (by rw [← e, f]; exact List.mem_cons_self))
theorem num_head {x : Str} {n : Nat} (e : x.cps.toList = TL.numL n) : (∃ d r, x.cps.toList = d :: r ∧ 48 ≤ d ∧ d ≤ 57) := by
  cases f : x.cps.toList with
  | nil =>
    rw [f] at e
    have := congrArg NumText.digitsVal e
    rw [TL.numL_val] at this
    have hn : n = 0 := this.symm
    subst hn
    exact absurd e.symm (by decide +kernel)
  | cons d r => exact ⟨d, r, rfl, TL.numL_digits n d (by rw [← e, f]; exact List.mem_cons_self)⟩
theorem nm_num {x : Str} (h : Nm x) : numOf x = none := numOf_none fun n _ e => by
  obtain ⟨_, d, r, f, l1, l2⟩ := nm_head h
  obtain ⟨d', r', f', l3, l4⟩ := num_head e
  rw [f] at f'
  cases f'
  omega
theorem num_open {x : Str} {n : Nat} (h : n ≤ 65535) (e : x.cps.toList = TL.numL n) : x ∉ openAll := fun m => by
  have := open_num m
  rw [numOf_some h e] at this
  cases this
theorem opens_in {se po : Bool} {k : Nat} {s : Str} (h : s ∈ opL ∨ (po = true ∧ s = "pick") ∨ (se = true ∧ s = "view")) : s ∈ opens se po (k + 2) := by
  unfold opens
  rw [if_pos (show 1 < k + 2 by omega)]
  refine List.mem_append_right _ ?_
  rcases h with h | ⟨rfl, rfl⟩ | ⟨rfl, rfl⟩
  · exact List.mem_append_left _ (List.mem_append_left _ h)
  · rw [if_pos rfl]
    exact List.mem_append_left _ (List.mem_append_right _ List.mem_cons_self)
  · rw [if_pos rfl]
    exact List.mem_append_right _ List.mem_cons_self
theorem opens_one {se po : Bool} {s : Str} (h : s ≠ "long") : s ∉ opens se po 1 := fun m => by
  unfold opens at m
  rw [if_neg (show ¬ 1 < 1 by omega), List.append_nil] at m
  split at m
  · exact h (List.mem_singleton.mp m)
  · cases m
theorem ops_kind {s : Str} (h : s ∈ opL) : s ∈ openAll ∧ s ≠ "long" ∧ s ≠ "view" ∧ s ≠ "pick" := ⟨List.mem_append_right _ h, (opL_ne h).2.2.1, (opL_ne h).2.2.2.1, (opL_ne h).2.2.2.2⟩
def fin (e : Ex) (i n : Nat) : Option Nat → RdR
  | none => .ok e (i + n)
  | some j => .bad (i + j)
/-- an expression at its words is read, or refused at the first word that is too deep -/
theorem read_rows {c : CuI} (hv : ∀ x ∈ c.vars, Nm x) : ∀ (e : Ex) (room l i b : Nat), e.Wf c.vars c.ops → e.Se c.se → 1 ≤ room → b + 1 = l + room → SubAt c.ws i ((e.rows l).map (·.1)) →
    readM c room i = fin e i (e.rows l).length (fbad b (e.rows l)) := by
  have vo : ∀ {s : Str}, s ∈ openAll → s ∉ c.vars := fun m z => nm_open (hv _ z) m
  have first : ∀ {s : Str} {i : Nat}, c.ws[i]? = some s → s ∈ openAll → s ≠ "long" → readM c 1 i = .bad i := fun {s i} e m n => by
    unfold readM
    rw [e]
    show (if s ∈ c.vars then _ else if s ∈ opens c.se (!c.ops.isEmpty) 1 then _ else _) = _
    rw [if_neg (vo m), if_neg (opens_one n), open_num m]
  have go : ∀ {s : Str} {k i : Nat}, c.ws[i]? = some s → s ∈ openAll → s ∈ opens c.se (!c.ops.isEmpty) (k + 1) → readM c (k + 1) i = partsR c (readM c k) s (i + 1) := fun {s k i} e m o => by
    unfold readM
    rw [e]
    show (if s ∈ c.vars then _ else if s ∈ opens c.se (!c.ops.isEmpty) (k + 1) then _ else _) = _
    rw [if_neg (vo m), if_pos o]
  have two : ∀ (f : Ex → Ex → Ex) (x y : Ex) (k l b i n : Nat) (xs ys : List (Str × Nat)), readM c k (i + n) = fin x (i + n) xs.length (fbad b xs) → (fbad b xs = none → readM c k (i + n + xs.length) = fin y (i + n + xs.length) ys.length (fbad b ys)) →
      twoR f (readM c k) (i + n) = fin (f x y) i (n + (xs.length + ys.length)) ((fbad b (xs ++ ys)).map (· + n)) := fun f x y k l b i n xs ys h1 h2 => by
    unfold twoR
    rw [fbad_app, h1]
    cases e1 : fbad b xs with
    | some j =>
      show RdR.bad (i + n + j) = RdR.bad (i + (j + n))
      rw [show i + n + j = i + (j + n) by omega]
    | none =>
      show (match readM c k (i + n + xs.length) with
        | .bad j' => RdR.bad j'
        | .ok b j' => .ok (f x b) j') = _
      rw [h2 e1]
      cases e2 : fbad b ys with
      | some j =>
        show RdR.bad (i + n + xs.length + j) = RdR.bad (i + (j + xs.length + n))
        rw [show i + n + xs.length + j = i + (j + xs.length + n) by omega]
      | none =>
        show RdR.ok (f x y) (i + n + xs.length + ys.length) = RdR.ok (f x y) (i + (n + (xs.length + ys.length)))
        rw [show i + n + xs.length + ys.length = i + (n + (xs.length + ys.length)) by omega]
  intro e
  induction e with
  | num n =>
    intro room l i b wf _ hr hb hs
    obtain ⟨k, rfl⟩ : ∃ k, room = k + 1 := ⟨room - 1, by omega⟩
    obtain ⟨m, rfl⟩ : ∃ m : Nat, n = (m : Int) := ⟨n.toNat, by have := wf.1; omega⟩
    have hm : m ≤ 65535 := by have := wf.2; omega
    have en : (Str.ofString (toString ((m : Nat) : Int))).cps.toList = TL.numL m := TL.tl_num m
    have h0 : c.ws[i]? = some (Str.ofString (toString ((m : Nat) : Int))) := hs.head
    unfold readM
    rw [h0]
    show (if Str.ofString (toString ((m : Nat) : Int)) ∈ c.vars then _ else if Str.ofString (toString ((m : Nat) : Int)) ∈ opens c.se (!c.ops.isEmpty) (k + 1) then _ else _) = _
    rw [if_neg (fun z => by have := nm_num (hv _ z); rw [numOf_some hm en] at this; cases this), if_neg (fun z => num_open hm en (opens_all z)), numOf_some hm en]
    show _ = fin _ i 1 (if b < l then some 0 else none)
    rw [if_neg (by omega)]
    rfl
  | var x =>
    intro room l i b wf _ hr hb hs
    obtain ⟨k, rfl⟩ : ∃ k, room = k + 1 := ⟨room - 1, by omega⟩
    have h0 : c.ws[i]? = some x := hs.head
    unfold readM
    rw [h0]
    show (if x ∈ c.vars then _ else _) = fin _ i 1 (if b < l then some 0 else none)
    rw [if_pos (show x ∈ c.vars from wf), if_neg (by omega)]
    rfl
  | long =>
    intro room l i b wf se hr hb hs
    obtain ⟨k, rfl⟩ : ∃ k, room = k + 1 := ⟨room - 1, by omega⟩
    have h0 : c.ws[i]? = some "long" := hs.head
    have hse : c.se = true := se
    rw [go h0 (by decide +kernel) (by unfold opens; rw [if_pos hse]; exact List.mem_append_left _ List.mem_cons_self)]
    show _ = fin _ i 1 (if b < l then some 0 else none)
    rw [if_neg (by omega)]
    unfold partsR
    rw [if_pos rfl]
    rfl
  | view e ih =>
    intro room l i b wf se hr hb hs
    obtain ⟨k, rfl⟩ : ∃ k, room = k + 1 := ⟨room - 1, by omega⟩
    have h0 : c.ws[i]? = some "view" := hs.head
    obtain ⟨nl, nv, np⟩ : ("view" : Str) ≠ "long" ∧ ("view" : Str) ∈ openAll ∧ ("pick" : Str) ≠ "view" := by decide +kernel
    show _ = fin _ i ((e.rows (l + 1)).length + 1) (if b < l + 1 then some 0 else (fbad b (e.rows (l + 1))).map (· + 1))
    cases k with
    | zero =>
      rw [first h0 nv nl, if_pos (by omega)]
      rfl
    | succ k =>
      rw [go h0 nv (opens_in (.inr (.inr ⟨se.1, rfl⟩))), if_neg (by omega)]
      unfold partsR oneR
      rw [if_neg nl, if_pos rfl, ih (k + 1) (l + 1) (i + 1) b wf se.2 (by omega) (by omega) hs.tail]
      cases fbad b (e.rows (l + 1)) with
      | none =>
        show RdR.ok _ (i + 1 + _) = RdR.ok _ (i + (_ + 1))
        rw [show i + 1 + (e.rows (l + 1)).length = i + ((e.rows (l + 1)).length + 1) by omega]
      | some j =>
        show RdR.bad (i + 1 + j) = RdR.bad (i + (j + 1))
        rw [show i + 1 + j = i + (j + 1) by omega]
  | op s x y ihx ihy =>
    intro room l i b wf se hr hb hs
    obtain ⟨k, rfl⟩ : ∃ k, room = k + 1 := ⟨room - 1, by omega⟩
    have h0 : c.ws[i]? = some s := hs.head
    obtain ⟨so, nl, nv, np⟩ := ops_kind wf.1
    show _ = fin _ i ((x.rows (l + 1) ++ y.rows (l + 1)).length + 1) (if b < l + 1 then some 0 else (fbad b (x.rows (l + 1) ++ y.rows (l + 1))).map (· + 1))
    cases k with
    | zero =>
      rw [first h0 so nl, if_pos (by omega)]
      rfl
    | succ k =>
      rw [go h0 so (opens_in (.inl wf.1)), if_neg (by omega)]
      unfold partsR
      have ht := hs.tail
      rw [List.map_append] at ht
      rw [if_neg nl, if_neg nv, if_neg np, two (.op s) x y (k + 1) l b i 1 _ _ (ihx (k + 1) (l + 1) (i + 1) b wf.2.1 se.1 (by omega) (by omega) ht.left) fun _ => ihy (k + 1) (l + 1) (i + 1 + (x.rows (l + 1)).length) b wf.2.2 se.2 (by omega) (by omega) (by
        have := ht.right
        rw [List.length_map] at this
        exact this), List.length_append, Nat.add_comm 1]
  | pick z x y ihx ihy =>
    intro room l i b wf se hr hb hs
    obtain ⟨k, rfl⟩ : ∃ k, room = k + 1 := ⟨room - 1, by omega⟩
    have h0 : c.ws[i]? = some "pick" := hs.head
    have h1 : c.ws[i + 1]? = some z := hs.tail.head
    obtain ⟨nl, nv, np⟩ : ("pick" : Str) ≠ "long" ∧ ("pick" : Str) ∈ openAll ∧ ("pick" : Str) ≠ "view" := by decide +kernel
    have po : (!c.ops.isEmpty) = true := by
      cases e : c.ops with
      | nil => have := wf.1; rw [e] at this; cases this
      | cons _ _ => rfl
    show _ = fin _ i ((x.rows (l + 1) ++ y.rows (l + 1)).length + 1 + 1) (if b < l + 1 then some 0 else (if b < l then some 0 else (fbad b (x.rows (l + 1) ++ y.rows (l + 1))).map (· + 1)).map (· + 1))
    cases k with
    | zero =>
      rw [first h0 nv nl, if_pos (by omega)]
      rfl
    | succ k =>
      rw [go h0 nv (opens_in (.inr (.inl ⟨po, rfl⟩))), if_neg (by omega), if_neg (by omega)]
      unfold partsR
      have ht := hs.tail.tail
      rw [List.map_append] at ht
      rw [if_neg nl, if_neg np, if_pos rfl, h1]
      show (if z ∈ c.ops then twoR (Ex.pick z) (readM c (k + 1)) (i + 1 + 1) else _) = _
      rw [if_pos wf.1, show i + 1 + 1 = i + 2 from rfl, two (.pick z) x y (k + 1) l b i 2 _ _ (ihx (k + 1) (l + 1) (i + 2) b wf.2.1 se.1 (by omega) (by omega) ht.left) fun _ => ihy (k + 1) (l + 1) (i + 2 + (x.rows (l + 1)).length) b wf.2.2 se.2 (by omega) (by omega) (by
        have := ht.right
        rw [List.length_map] at this
        exact this), List.length_append, Nat.add_comm 2]
      cases fbad b (x.rows (l + 1) ++ y.rows (l + 1)) <;> rfl
theorem inV_non : ∀ {l : List Str}, inV .non (l.map V.str) = false
  | [] => rfl
  | y :: r => by
    have ih := inV_non (l := r)
    unfold inV at ih ⊢
    rw [List.map_cons, List.any_cons, ih]
    rfl
theorem here_flat {ws : List Str} {i : Nat} : flatV (hereV ws i) = true := by
  unfold hereV
  split <;> rfl
theorem same_at {H H' : Hp} {S : Addr} {o : HO} (s : Same H H') (f : H S = none) : Same H (upd H' S o) := fun b x e => by
  rw [upd_ne (ne_of_none e f)]
  exact s _ _ e
theorem paired_app {α β : Type} {R : α → β → Prop} : ∀ {xs zs : List α} {ys ws : List β}, Paired R xs ys → Paired R zs ws → Paired R (xs ++ zs) (ys ++ ws)
  | _, _, _, _, .nil, b => b
  | _, _, _, _, .cons h a, b => .cons h (paired_app a b)
theorem pgetC {α β : Type} {R : α → β → Prop} : ∀ {xs : List α} {ys : List β} {i : Nat} {x : α}, Paired R xs ys → xs[i]? = some x → ∃ y, ys[i]? = some y ∧ R x y
  | _, _, i, x, .nil, e => by simp at e
  | _, _, 0, x, .cons r _, e => by
    cases e
    exact ⟨_, rfl, r⟩
  | _, _, i + 1, x, .cons _ t, e => by
    rw [List.getElem?_cons_succ] at e
    rw [List.getElem?_cons_succ]
    exact pgetC t e
theorem paired_len {α β : Type} {R : α → β → Prop} : ∀ {xs : List α} {ys : List β}, Paired R xs ys → xs.length = ys.length
  | _, _, .nil => rfl
  | _, _, .cons _ t => by rw [List.length_cons, List.length_cons, paired_len t]


/-! ### methods of tuples that the program has made: they are tracked with their object -/
def FT (H : Hp) (a : Addr) (xs : List V) : Prop := ∃ o : Obj, H a = some (.frz o (.tup xs)) ∧ o.cls = .type "tuple" ∧ o.dict = none
theorem FT.sq {K : PySem.W.Frag} {H : Hp} {a : Addr} {xs : List V} (h : FT H a xs) : SqT K H a xs := by
  obtain ⟨o, h, _⟩ := h
  exact .inl (.inr ⟨o, h⟩)
theorem FT.same {H H' : Hp} {a : Addr} {xs : List V} (h : FT H a xs) (s : Same H H') : FT H' a xs := by
  obtain ⟨o, h, g⟩ := h
  exact ⟨o, s _ _ h, g⟩
section
variable {X : Cx}
def tyTu (K : PySem.W.Frag) (x : V) (H : Hp) : Prop := ∃ p, x = .ref p ∧ ((∃ xs, FT H p xs) ∨ ∃ o, K.lookup p = some o ∧ o.cls = .type "tuple" ∧ o.dict = none)
theorem ty_tu : TyOk X "tuple" (tyTu X.K) := by
  intro pins σ H s x v I r h
  obtain ⟨p, rfl, ⟨xs, o, hp, hc, hd⟩ | ⟨o, hk, hc, hd⟩⟩ := h
  · cases r
    obtain ⟨g, _⟩ := I.hok p _ hp
    exact ⟨⟨o, g, hc⟩, fun a e => by cases e; exact ⟨o, g, hd⟩⟩
  · cases r
    have g := I.kIn p o hk
    exact ⟨⟨o, g, hc⟩, fun a e => by cases e; exact ⟨o, g, hd⟩⟩
theorem call_tuple_frz : CallR X (.type "tuple") (fun xs H Q => ∃ p ys, xs = [.ref p] ∧ SqL X.K H p ys ∧ ∀ l o, H l = none → o.cls = .type "tuple" → o.dict = none → Q (.ref l) (upd H l (.frz o (.tup ys)))) := by
  intro pins s σ H xs us Q I r h
  obtain ⟨p, ys, rfl, hq, q⟩ := h
  obtain ⟨u, rfl, rx⟩ := vals1 r
  cases rx
  obtain ⟨its, r', pl, hz⟩ := I.list hq
  have hlen := r'.length
  refine call_tuple_list pl.isList (fun h' kp => ?_) (by simp only [List.size_toArray] <;> omega)
  have I1 : Inv X pins σ H { s with heap := h' } := I.kept (t' := s.toks) kp
  have I2 : Inv X pins σ (upd H h'.objs.size (.frz { cls := .type "tuple", data := .seq its.toArray } (.tup ys))) { s with heap := h'.push { cls := .type "tuple", data := .seq its.toArray } } :=
    I1.laid (t' := s.toks) (fun b o e => Heap.get?_push_of_some _ e) (Nat.le_refl _) (show ObjOk X.prog X.w _ _ _ (.frz _ (.tup ys)) from ⟨Heap.get?_push_size _ rfl, hz, its, r', IsTup.new _ _⟩)
  exact ⟨.ref h'.objs.size, _, I2, rfl, q _ _ (I1.hok.fresh (Nat.le_refl _)) rfl rfl⟩
def tTupF (t : TA) : TE := fun σ H Q => t σ H fun xs H1 => xs.length ≤ sizeLine ∧ ∀ p o, H1 p = none → o.cls = .type "tuple" → o.dict = none → Q (.ref p) (upd H1 p (.frz o (.tup xs)))
theorem pe_tupF {es : List Expr} {t : TA} {x1 : Nat} {pos : Pos} (h : PA X es t) : PE X (.Tuple es x1 pos) (tTupF t) := by
  refine ⟨fun pins s σ H Q I hq => ?_⟩
  refine wpAny_Tuple_spliced (thn (h.run pos pins s σ H _ I hq) fun us s1 ⟨xs, H1, I1, r, z, q⟩ => ⟨by rw [← r.length]; exact z, ?_⟩)
  have hf : H1 s1.heap.objs.size = none := I1.hok.fresh (Nat.le_refl _)
  refine ⟨.ref s1.heap.objs.size, upd H1 s1.heap.objs.size (.frz { cls := .type "tuple", data := .seq us.toArray } (.tup xs)), I1.laid (t' := s1.toks) (fun b u e => Heap.get?_push_of_some _ e) (Nat.le_refl _) ?_, rfl, q _ _ hf rfl rfl⟩
  exact ⟨Heap.get?_push_size _ rfl, z, us, r, ⟨_, Heap.get?_push_size _ rfl, rfl, _, rfl⟩⟩
end


/-! ### tuples of the program's own run, or of its top -/
def TpK (K : PySem.W.Frag) (H : Hp) (a : Addr) (xs : List V) : Prop := H a = some (.tup xs) ∨ ((∃ o, K.lookup a = some o ∧ o.cls = .type "tuple") ∧ ∀ H', SqT K H' a xs)
theorem TpK.sq {K : PySem.W.Frag} {H : Hp} {a : Addr} {xs : List V} (h : TpK K H a xs) : SqT K H a xs := by
  rcases h with h | h
  · exact SqT.of h
  · exact h.2 H
theorem TpK.keep {K : PySem.W.Frag} {H H' : Hp} {a : Addr} {xs : List V} (k : KeepT H H') (h : TpK K H a xs) : TpK K H' a xs := by
  rcases h with h | h
  · exact .inl (k _ _ h)
  · exact .inr h
theorem TpK.ty {K : PySem.W.Frag} {H : Hp} {a : Addr} {xs : List V} (h : TpK K H a xs) : TyX K H (.ref a) (.type "tuple") := by
  rcases h with h | ⟨⟨o, e, c⟩, _⟩
  · exact .base (.tup h)
  · exact .kTuple e c
inductive DaK (K : PySem.W.Frag) (H : Hp) : V → PyData → Prop
  | non : DaK K H .non .none
  | bl (b : Bool) : DaK K H (.bl b) (.bool b)
  | int (i : Int) : DaK K H (.int i) (.int i)
  | str (x : Str) : DaK K H (.str x) (.str x)
  | tup {a : Addr} {xs : List V} {ds : List PyData} : TpK K H a xs → xs.length = ds.length → (∀ (i : Nat) v d, xs[i]? = some v → ds[i]? = some d → DaK K H v d) → DaK K H (.ref a) (.tuple ds)
  | lst {a : Addr} {xs : List V} {ds : List PyData} : H a = some (.lst xs) → xs.length = ds.length → (∀ (i : Nat) v d, xs[i]? = some v → ds[i]? = some d → DaK K H v d) → DaK K H (.ref a) (.list ds)
theorem Da.toK {K : PySem.W.Frag} {H : Hp} {v : V} {d : PyData} (h : Da H v d) : DaK K H v d := by
  induction h with
  | non => exact .non
  | bl b => exact .bl b
  | int i => exact .int i
  | str x => exact .str x
  | tup h l e ih => exact .tup (.inl h) l ih
  | lst h l e ih => exact .lst h l ih

inductive EvK (K : PySem.W.Frag) (H : Hp) : V → Ex → Prop
  | num {a : Addr} {n : Int} : TpK K H a [.str "number", .int n] → EvK K H (.ref a) (.num n)
  | var {a : Addr} {x : Str} : TpK K H a [.str "variable", .str x] → EvK K H (.ref a) (.var x)
  | long {a : Addr} : TpK K H a [.str "long"] → EvK K H (.ref a) .long
  | view {a : Addr} {v : V} {e : Ex} : TpK K H a [.str "view", v] → EvK K H v e → EvK K H (.ref a) (.view e)
  | pick {a : Addr} {x : Str} {v w : V} {e f : Ex} : TpK K H a [.str "pick", .str x, v, w] → EvK K H v e → EvK K H w f → EvK K H (.ref a) (.pick x e f)
  | op {a : Addr} {s : Str} {v w : V} {e f : Ex} : TpK K H a [.str s, v, w] → EvK K H v e → EvK K H w f → EvK K H (.ref a) (.op s e f)
theorem EvK.keep {K : PySem.W.Frag} {H H' : Hp} (k : KeepT H H') : ∀ {v : V} {e : Ex}, EvK K H v e → EvK K H' v e
  | _, _, .num h => .num (h.keep k)
  | _, _, .var h => .var (h.keep k)
  | _, _, .long h => .long (h.keep k)
  | _, _, .view h a => .view (h.keep k) (EvK.keep k a)
  | _, _, .pick h a b => .pick (h.keep k) (EvK.keep k a) (EvK.keep k b)
  | _, _, .op h a b => .op (h.keep k) (EvK.keep k a) (EvK.keep k b)
theorem Ev.toK {K : PySem.W.Frag} {H : Hp} : ∀ {v : V} {e : Ex}, Ev H v e → EvK K H v e
  | _, _, .num h => .num (.inl h)
  | _, _, .var h => .var (.inl h)
  | _, _, .long h => .long (.inl h)
  | _, _, .view h a => .view (.inl h) (Ev.toK a)
  | _, _, .pick h a b => .pick (.inl h) (Ev.toK a) (Ev.toK b)
  | _, _, .op h a b => .op (.inl h) (Ev.toK a) (Ev.toK b)
/-- an expression as data -/
def Ex.dat : Ex → PyData
  | .num n => .tuple [.str "number", .int n] | .var x => .tuple [.str "variable", .str x] | .long => .tuple [.str "long"] | .view e => .tuple [.str "view", e.dat]
  | .pick x a b => .tuple [.str "pick", .str x, a.dat, b.dat] | .op s a b => .tuple [.str s, a.dat, b.dat]
theorem EvK.dp {K : PySem.W.Frag} {H : Hp} : ∀ {v : V} {e : Ex}, EvK K H v e → Dp K H v e.dat
  | _, _, .num h => .tup h.sq (.cons (.str _) (.cons (.int _) .nil))
  | _, _, .var h => .tup h.sq (.cons (.str _) (.cons (.str _) .nil))
  | _, _, .long h => .tup h.sq (.cons (.str _) .nil)
  | _, _, .view h a => .tup h.sq (.cons (.str _) (.cons (EvK.dp a) .nil))
  | _, _, .pick h a b => .tup h.sq (.cons (.str _) (.cons (.str _) (.cons (EvK.dp a) (.cons (EvK.dp b) .nil))))
  | _, _, .op h a b => .tup h.sq (.cons (.str _) (.cons (EvK.dp a) (.cons (EvK.dp b) .nil)))
theorem DaK.mk {K : PySem.W.Frag} {H : Hp} {a : Addr} {xs : List V} {ds : List PyData} (h : TpK K H a xs) (p : Paired (DaK K H) xs ds) : DaK K H (.ref a) (.tuple ds) := by
  refine .tup h p.length fun i v d h1 h2 => ?_
  have go : ∀ {xs : List V} {ds : List PyData} (i : Nat) (v : V) (d : PyData), Paired (DaK K H) xs ds → xs[i]? = some v → ds[i]? = some d → DaK K H v d := by
    intro xs ds i v d p
    induction p generalizing i with
    | nil => intro h; simp at h
    | cons r t ih =>
      intro h1 h2
      cases i with
      | zero => cases h1; cases h2; exact r
      | succ i => exact ih i (by rw [List.getElem?_cons_succ] at h1; exact h1) (by rw [List.getElem?_cons_succ] at h2; exact h2)
  exact go i v d p h1 h2
theorem EvK.da {K : PySem.W.Frag} {H : Hp} : ∀ {v : V} {e : Ex}, EvK K H v e → DaK K H v e.dat
  | _, _, .num h => .mk h (.cons (.str _) (.cons (.int _) .nil))
  | _, _, .var h => .mk h (.cons (.str _) (.cons (.str _) .nil))
  | _, _, .long h => .mk h (.cons (.str _) .nil)
  | _, _, .view h a => .mk h (.cons (.str _) (.cons (EvK.da a) .nil))
  | _, _, .pick h a b => .mk h (.cons (.str _) (.cons (.str _) (.cons (EvK.da a) (.cons (EvK.da b) .nil))))
  | _, _, .op h a b => .mk h (.cons (.str _) (.cons (EvK.da a) (.cons (EvK.da b) .nil)))
theorem dat_depth : ∀ e : Ex, e.dat.depth = e.deep
  | .num _ => by simp [Ex.dat, PyData.depth, PyData.depthAll, Ex.deep]
  | .var _ => by simp [Ex.dat, PyData.depth, PyData.depthAll, Ex.deep]
  | .long => by simp [Ex.dat, PyData.depth, PyData.depthAll, Ex.deep]
  | .view e => by
    have := dat_depth e
    simp only [Ex.dat, PyData.depth, PyData.depthAll, Ex.deep, this]
    omega
  | .pick x a b => by
    have := dat_depth a
    have := dat_depth b
    simp only [Ex.dat, PyData.depth, PyData.depthAll, Ex.deep, *]
    omega
  | .op s a b => by
    have := dat_depth a
    have := dat_depth b
    simp only [Ex.dat, PyData.depth, PyData.depthAll, Ex.deep, *]
    omega
theorem dat_wide : ∀ e : Ex, wide e.dat = true
  | .num _ => by simp [Ex.dat, wide, wideAll]
  | .var _ => by simp [Ex.dat, wide, wideAll]
  | .long => by simp [Ex.dat, wide, wideAll]
  | .view e => by simp [Ex.dat, wide, wideAll, dat_wide e]
  | .pick x a b => by simp [Ex.dat, wide, wideAll, dat_wide a, dat_wide b]
  | .op s a b => by simp [Ex.dat, wide, wideAll, dat_wide a, dat_wide b]
theorem opL_ok {s : Str} (h : s ∈ opL) : PyData.strOk s = true := by
  have : opL.all PyData.strOk = true := by decide +kernel
  exact List.all_eq_true.mp this s h
theorem dat_lay {ns ps : List Str} (hn : ∀ x ∈ ns, PyData.strOk x = true) (hp : ∀ x ∈ ps, PyData.strOk x = true) : ∀ e : Ex, e.Wf ns ps → e.dat.canLay0 = true
  | .num _, _ => by
    have : PyData.strOk "number" = true := by decide +kernel
    simp [Ex.dat, PyData.canLay0, PyData.canLayAll0, this]
  | .var x, h => by
    have : PyData.strOk "variable" = true := by decide +kernel
    simp [Ex.dat, PyData.canLay0, PyData.canLayAll0, this, hn x h]
  | .long, _ => by
    have : PyData.strOk "long" = true := by decide +kernel
    simp [Ex.dat, PyData.canLay0, PyData.canLayAll0, this]
  | .view e, h => by
    have : PyData.strOk "view" = true := by decide +kernel
    simp [Ex.dat, PyData.canLay0, PyData.canLayAll0, this, dat_lay hn hp e h]
  | .pick x a b, h => by
    have : PyData.strOk "pick" = true := by decide +kernel
    simp [Ex.dat, PyData.canLay0, PyData.canLayAll0, this, hp x h.1, dat_lay hn hp a h.2.1, dat_lay hn hp b h.2.2]
  | .op s a b, h => by
    simp [Ex.dat, PyData.canLay0, PyData.canLayAll0, opL_ok h.1, dat_lay hn hp a h.2.1, dat_lay hn hp b h.2.2]
theorem dat_shaped {ns ps : List Str} (hn : ∀ x ∈ ns, PyData.strOk x = true) (hp : ∀ x ∈ ps, PyData.strOk x = true) {e : Ex} (h : e.Wf ns ps) (d : e.deep ≤ 64) : SeqAt.shaped e.dat = true := by
  unfold SeqAt.shaped
  rw [dat_lay hn hp e h, dat_depth]
  simp [d]
theorem str_beq {a b : Str} : (a == b) = true ↔ a = b := beq_iff_eq
theorem eqv_t (xs ys : List PyData) : PyData.eqv (.tuple xs) (.tuple ys) = PyData.eqvAll xs ys := by simp [PyData.eqv]
theorem eqv_c (x y : PyData) (xs ys : List PyData) : PyData.eqvAll (x :: xs) (y :: ys) = (PyData.eqv x y && PyData.eqvAll xs ys) := by simp [PyData.eqvAll]
theorem eqv_s (a b : Str) : PyData.eqv (.str a) (.str b) = (a == b) := by simp [PyData.eqv]
theorem eqv_i (a b : Int) : PyData.eqv (.int a) (.int b) = (a == b) := by simp [PyData.eqv]
theorem eqv_nn : PyData.eqvAll [] [] = true := by simp [PyData.eqvAll]
theorem eqv_nc (y : PyData) (ys : List PyData) : PyData.eqvAll [] (y :: ys) = false := by simp [PyData.eqvAll]
theorem eqv_cn (y : PyData) (ys : List PyData) : PyData.eqvAll (y :: ys) [] = false := by simp [PyData.eqvAll]
theorem dat_eqv : ∀ a b : Ex, PyData.eqv a.dat b.dat = true → a = b := by
  have v1 : ("variable" : Str) ≠ "number" := by decide +kernel
  have v2 : ("view" : Str) ≠ "number" := by decide +kernel
  have v3 : ("view" : Str) ≠ "variable" := by decide +kernel
  intro a
  induction a with
  | num n => intro b; cases b <;> simp only [Ex.dat, eqv_t, eqv_c, eqv_s, eqv_i, eqv_nn, eqv_nc, eqv_cn, Bool.and_eq_true, beq_iff_eq, v1.symm, v2.symm, false_and, and_false, Bool.false_eq_true, false_implies, and_true, true_and] <;> (intro h; rw [h])
  | var x => intro b; cases b <;> simp only [Ex.dat, eqv_t, eqv_c, eqv_s, eqv_i, eqv_nn, eqv_nc, eqv_cn, Bool.and_eq_true, beq_iff_eq, v1, v3.symm, false_and, and_false, Bool.false_eq_true, false_implies, and_true, true_and] <;> (intro h; rw [h])
  | long => intro b; cases b <;> simp only [Ex.dat, eqv_t, eqv_c, eqv_s, eqv_i, eqv_nn, eqv_nc, eqv_cn, Bool.and_eq_true, beq_iff_eq, false_and, and_false, Bool.false_eq_true, false_implies, and_true, true_and] <;> (first | (intro h; rfl) | (intro _; trivial))
  | view e ih =>
    intro b
    cases b with
    | view f =>
      intro h
      simp only [Ex.dat, eqv_t, eqv_c, eqv_s, eqv_nn, Bool.and_eq_true, and_true, true_and] at h
      rw [ih f h.2]
    | _ => simp only [Ex.dat, eqv_t, eqv_c, eqv_s, eqv_i, eqv_nn, eqv_nc, eqv_cn, Bool.and_eq_true, beq_iff_eq, v2, v3, false_and, and_false, Bool.false_eq_true, false_implies]
  | pick x a b iha ihb =>
    intro c
    cases c with
    | pick y c d =>
      intro h
      simp only [Ex.dat, eqv_t, eqv_c, eqv_s, eqv_nn, Bool.and_eq_true, beq_iff_eq, and_true, true_and] at h
      rw [iha c h.2.1, ihb d h.2.2, h.1]
    | _ => simp only [Ex.dat, eqv_t, eqv_c, eqv_s, eqv_i, eqv_nn, eqv_nc, eqv_cn, Bool.and_eq_true, beq_iff_eq, false_and, and_false, Bool.false_eq_true, false_implies]
  | op s a b iha ihb =>
    intro c
    cases c with
    | op y c d =>
      intro h
      simp only [Ex.dat, eqv_t, eqv_c, eqv_s, eqv_nn, Bool.and_eq_true, beq_iff_eq, and_true, true_and] at h
      rw [iha c h.2.1, ihb d h.2.2, h.1]
    | _ => simp only [Ex.dat, eqv_t, eqv_c, eqv_s, eqv_i, eqv_nn, eqv_nc, eqv_cn, Bool.and_eq_true, beq_iff_eq, false_and, and_false, Bool.false_eq_true, false_implies]
theorem dat_eq_iff {ns ps : List Str} (hn : ∀ x ∈ ns, PyData.strOk x = true) (hp : ∀ x ∈ ps, PyData.strOk x = true) {a b : Ex} (h : a.Wf ns ps) : PyData.eqv a.dat b.dat = true ↔ a = b :=
  ⟨dat_eqv a b, fun e => by rw [← e]; exact SeqAt.eqv_refl _ (dat_lay hn hp a h)⟩
theorem deep_pos (e : Ex) : 0 < e.deep := by cases e <;> simp [Ex.deep]
def Ex.tag : Ex → Str
  | .num _ => "number" | .var _ => "variable" | .long => "long" | .view _ => "view" | .pick _ _ _ => "pick" | .op s _ _ => s
theorem EvK.hd {K : PySem.W.Frag} {H : Hp} {v : V} {e : Ex} (h : EvK K H v e) : ∃ a xs, v = .ref a ∧ SqT K H a xs ∧ xs[0]? = some (.str e.tag) := by
  cases h with
  | num h => exact ⟨_, _, rfl, h.sq, rfl⟩
  | var h => exact ⟨_, _, rfl, h.sq, rfl⟩
  | long h => exact ⟨_, _, rfl, h.sq, rfl⟩
  | view h _ => exact ⟨_, _, rfl, h.sq, rfl⟩
  | pick h _ _ => exact ⟨_, _, rfl, h.sq, rfl⟩
  | op h _ _ => exact ⟨_, _, rfl, h.sq, rfl⟩
theorem EvK.nm {K : PySem.W.Frag} {H : Hp} {v : V} {n : Int} (h : EvK K H v (.num n)) : ∃ a, v = .ref a ∧ SqT K H a [.str "number", .int n] := by
  cases h with
  | num h => exact ⟨_, rfl, h.sq⟩
theorem tag_num {ns ps : List Str} {e : Ex} (h : e.Wf ns ps) (t : e.tag = "number") : ∃ n, e = .num n := by
  obtain ⟨n1, n2, n3, n4, _⟩ := num_ne
  cases e with
  | num n => exact ⟨n, rfl⟩
  | var x => exact absurd t n1
  | long => exact absurd t n2
  | view e => exact absurd t n3
  | pick x a b => exact absurd t n4
  | op s a b => exact absurd t (opL_ne h.1).1

/-! ### statements -/
inductive St where
  | set (x : Str) (e : Ex)
  | ite (e : Ex) (t f : List St)
  | whn (o : Str) (t f : List St)
  | draw (x : Str) (n : Int)
  | move (p : Int) (x : Str) (n k : Int)
  | show (a : Int) (e : Ex)
  | pay (s : Str) (e : Ex)
mutual
def St.dat : St → PyData
  | .set x e => .tuple [.str "set", .str x, e.dat]
  | .ite e t f => .tuple [.str "if", e.dat, .tuple (datL t), .tuple (datL f)]
  | .whn o t f => .tuple [.str "when", .str o, .tuple (datL t), .tuple (datL f)]
  | .draw x n => .tuple [.str "draw", .str x, .int n]
  | .move p x n k => .tuple [.str "move", .int p, .str x, .int n, .int k]
  | .show a e => .tuple [.str "show", .int a, e.dat]
  | .pay s e => .tuple [.str s, e.dat]
def datL : List St → List PyData
  | [] => []
  | s :: r => s.dat :: datL r
end
theorem datL_map : ∀ ss : List St, datL ss = ss.map St.dat
  | [] => rfl
  | s :: r => by
    show s.dat :: datL r = s.dat :: r.map St.dat
    rw [datL_map r]
theorem datL_len (ss : List St) : (datL ss).length = ss.length := by rw [datL_map, List.length_map]
def St.tag : St → Str
  | .set _ _ => "set" | .ite _ _ _ => "if" | .whn _ _ _ => "when" | .draw _ _ => "draw" | .move _ _ _ _ => "move" | .show _ _ => "show" | .pay s _ => s
mutual
/-- bounds: names, depths of expressions -/
def St.Wf (ns ps : List Str) : St → Prop
  | .set x e => x ∈ ns ∧ e.Wf ns ps ∧ e.deep ≤ 13
  | .ite e t f => (e.Wf ns ps ∧ e.deep ≤ 13) ∧ WfL ns ps t ∧ WfL ns ps f
  | .whn o t f => o ∈ ps ∧ WfL ns ps t ∧ WfL ns ps f
  | .draw x _ => x ∈ ns
  | .move _ x _ _ => x ∈ ns
  | .show _ e => e.Wf ns ps ∧ e.deep ≤ 13
  | .pay s e => (s = "pay" ∨ s = "take") ∧ e.Wf ns ps ∧ e.deep ≤ 13
def WfL (ns ps : List Str) : List St → Prop
  | [] => True
  | s :: r => s.Wf ns ps ∧ WfL ns ps r
end
theorem wfL_app {ns ps : List Str} : ∀ {a b : List St}, WfL ns ps a → WfL ns ps b → WfL ns ps (a ++ b)
  | [], _, _, h => h
  | _ :: _, _, h, g => ⟨h.1, wfL_app h.2 g⟩
theorem wfL_get {ns ps : List Str} : ∀ {a : List St} {i : Nat} {s : St}, WfL ns ps a → a[i]? = some s → s.Wf ns ps
  | [], _, _, _, h => by simp at h
  | _ :: _, 0, _, h, e => by cases e; exact h.1
  | _ :: _, i + 1, _, h, e => wfL_get (i := i) h.2 (by rw [List.getElem?_cons_succ] at e; exact e)
mutual
/-- how deep blocks stand in one another -/
def St.lv : St → Nat
  | .ite _ t f => max (lvL t) (lvL f) + 1
  | .whn _ t f => max (lvL t) (lvL f) + 1
  | .set _ _ => 0 | .draw _ _ => 0 | .move _ _ _ _ => 0 | .show _ _ => 0 | .pay _ _ => 0
def lvL : List St → Nat
  | [] => 0
  | s :: r => max s.lv (lvL r)
end
theorem lvL_app : ∀ (a b : List St), lvL (a ++ b) = max (lvL a) (lvL b)
  | [], b => by show lvL b = max 0 (lvL b); omega
  | s :: r, b => by
    show max s.lv (lvL (r ++ b)) = max (max s.lv (lvL r)) (lvL b)
    rw [lvL_app r b]
    omega
theorem lvL_get : ∀ {a : List St} {i : Nat} {s : St}, a[i]? = some s → s.lv ≤ lvL a
  | [], _, _, h => by simp at h
  | s :: r, 0, _, e => by cases e; show s.lv ≤ max s.lv (lvL r); omega
  | s :: r, i + 1, _, e => by
    have := lvL_get (a := r) (i := i) (by rw [List.getElem?_cons_succ] at e; exact e)
    show _ ≤ max s.lv (lvL r)
    omega
mutual
/-- how many statements -/
def St.sz : St → Nat
  | .ite _ t f => 1 + szL t + szL f
  | .whn _ t f => 1 + szL t + szL f
  | .set _ _ => 1 | .draw _ _ => 1 | .move _ _ _ _ => 1 | .show _ _ => 1 | .pay _ _ => 1
def szL : List St → Nat
  | [] => 0
  | s :: r => s.sz + szL r
end
theorem szL_app : ∀ (a b : List St), szL (a ++ b) = szL a + szL b
  | [], b => by show szL b = 0 + szL b; omega
  | s :: r, b => by
    show s.sz + szL (r ++ b) = s.sz + szL r + szL b
    rw [szL_app r b]
    omega
theorem sz_pos (s : St) : 1 ≤ s.sz := by cases s <;> simp only [St.sz] <;> omega
theorem len_sz : ∀ a : List St, a.length ≤ szL a
  | [] => Nat.le_refl _
  | s :: r => by
    have h1 := sz_pos s
    have h2 := len_sz r
    show r.length + 1 ≤ s.sz + szL r
    omega
theorem szL_get : ∀ {a : List St} {i : Nat} {s : St}, a[i]? = some s → s.sz ≤ szL a
  | [], _, _, h => by simp at h
  | s :: r, 0, _, e => by cases e; show s.sz ≤ s.sz + szL r; omega
  | s :: r, i + 1, _, e => by
    have := szL_get (a := r) (i := i) (by rw [List.getElem?_cons_succ] at e; exact e)
    show _ ≤ s.sz + szL r
    omega
mutual
inductive Sv (K : PySem.W.Frag) (H : Hp) : V → St → Prop
  | set {a : Addr} {x : Str} {v : V} {e : Ex} : TpK K H a [.str "set", .str x, v] → EvK K H v e → Sv K H (.ref a) (.set x e)
  | ite {a b c : Addr} {v : V} {e : Ex} {vs ws : List V} {t f : List St} : TpK K H a [.str "if", v, .ref b, .ref c] → EvK K H v e → TpK K H b vs → Bv K H vs t → TpK K H c ws → Bv K H ws f → Sv K H (.ref a) (.ite e t f)
  | whn {a b c : Addr} {o : Str} {vs ws : List V} {t f : List St} : TpK K H a [.str "when", .str o, .ref b, .ref c] → TpK K H b vs → Bv K H vs t → TpK K H c ws → Bv K H ws f → Sv K H (.ref a) (.whn o t f)
  | draw {a : Addr} {x : Str} {n : Int} : TpK K H a [.str "draw", .str x, .int n] → Sv K H (.ref a) (.draw x n)
  | move {a : Addr} {p n k : Int} {x : Str} : TpK K H a [.str "move", .int p, .str x, .int n, .int k] → Sv K H (.ref a) (.move p x n k)
  | show {a : Addr} {m : Int} {v : V} {e : Ex} : TpK K H a [.str "show", .int m, v] → EvK K H v e → Sv K H (.ref a) (.show m e)
  | pay {a : Addr} {s : Str} {v : V} {e : Ex} : TpK K H a [.str s, v] → EvK K H v e → Sv K H (.ref a) (.pay s e)
inductive Bv (K : PySem.W.Frag) (H : Hp) : List V → List St → Prop
  | nil : Bv K H [] []
  | cons {v : V} {vs : List V} {s : St} {ss : List St} : Sv K H v s → Bv K H vs ss → Bv K H (v :: vs) (s :: ss)
end
section
variable {K : PySem.W.Frag} {H H' : Hp}
mutual
theorem Sv.keep (k : KeepT H H') : ∀ {v : V} {s : St}, Sv K H v s → Sv K H' v s
  | _, _, .set h e => .set (h.keep k) (e.keep k)
  | _, _, .ite h e b t c f => .ite (h.keep k) (e.keep k) (b.keep k) (Bv.keep k t) (c.keep k) (Bv.keep k f)
  | _, _, .whn h b t c f => .whn (h.keep k) (b.keep k) (Bv.keep k t) (c.keep k) (Bv.keep k f)
  | _, _, .draw h => .draw (h.keep k)
  | _, _, .move h => .move (h.keep k)
  | _, _, .show h e => .show (h.keep k) (e.keep k)
  | _, _, .pay h e => .pay (h.keep k) (e.keep k)
theorem Bv.keep (k : KeepT H H') : ∀ {vs : List V} {ss : List St}, Bv K H vs ss → Bv K H' vs ss
  | _, _, .nil => .nil
  | _, _, .cons h t => .cons (Sv.keep k h) (Bv.keep k t)
end
theorem Bv.get : ∀ {vs : List V} {ss : List St} {i : Nat} {v : V}, Bv K H vs ss → vs[i]? = some v → ∃ s, ss[i]? = some s ∧ Sv K H v s
  | _, _, _, _, .nil, e => by simp at e
  | _, _, 0, _, .cons h _, e => by cases e; exact ⟨_, rfl, h⟩
  | _, _, i + 1, _, .cons _ t, e => by
    rw [List.getElem?_cons_succ] at e ⊢
    exact Bv.get t e
theorem Bv.len : ∀ {vs : List V} {ss : List St}, Bv K H vs ss → vs.length = ss.length
  | _, _, .nil => rfl
  | _, _, .cons _ t => by rw [List.length_cons, List.length_cons, Bv.len t]
theorem Bv.app : ∀ {vs ws : List V} {ss ts : List St}, Bv K H vs ss → Bv K H ws ts → Bv K H (vs ++ ws) (ss ++ ts)
  | _, _, _, _, .nil, b => b
  | _, _, _, _, .cons h t, b => .cons h (Bv.app t b)
theorem Bv.one {v : V} {s : St} (h : Sv K H v s) : Bv K H [v] [s] := .cons h .nil
theorem Sv.hd {v : V} {s : St} (h : Sv K H v s) : ∃ a xs, v = .ref a ∧ SqT K H a xs ∧ xs[0]? = some (.str s.tag) := by
  cases h with
  | set h _ => exact ⟨_, _, rfl, h.sq, rfl⟩
  | ite h _ _ _ _ _ => exact ⟨_, _, rfl, h.sq, rfl⟩
  | whn h _ _ _ _ => exact ⟨_, _, rfl, h.sq, rfl⟩
  | draw h => exact ⟨_, _, rfl, h.sq, rfl⟩
  | move h => exact ⟨_, _, rfl, h.sq, rfl⟩
  | «show» h _ => exact ⟨_, _, rfl, h.sq, rfl⟩
  | pay h _ => exact ⟨_, _, rfl, h.sq, rfl⟩
mutual
theorem Sv.dp : ∀ {v : V} {s : St}, Sv K H v s → Dp K H v s.dat
  | _, _, .set h e => .tup h.sq (.cons (.str _) (.cons (.str _) (.cons e.dp .nil)))
  | _, _, .ite h e b t c f => .tup h.sq (.cons (.str _) (.cons e.dp (.cons (.tup b.sq (Bv.dp t)) (.cons (.tup c.sq (Bv.dp f)) .nil))))
  | _, _, .whn h b t c f => .tup h.sq (.cons (.str _) (.cons (.str _) (.cons (.tup b.sq (Bv.dp t)) (.cons (.tup c.sq (Bv.dp f)) .nil))))
  | _, _, .draw h => .tup h.sq (.cons (.str _) (.cons (.str _) (.cons (.int _) .nil)))
  | _, _, .move h => .tup h.sq (.cons (.str _) (.cons (.int _) (.cons (.str _) (.cons (.int _) (.cons (.int _) .nil)))))
  | _, _, .show h e => .tup h.sq (.cons (.str _) (.cons (.int _) (.cons e.dp .nil)))
  | _, _, .pay h e => .tup h.sq (.cons (.str _) (.cons e.dp .nil))
theorem Bv.dp : ∀ {vs : List V} {ss : List St}, Bv K H vs ss → DpAll K H vs (datL ss)
  | _, _, .nil => .nil
  | _, _, .cons h t => .cons (Sv.dp h) (Bv.dp t)
end
mutual
theorem Sv.da : ∀ {v : V} {s : St}, Sv K H v s → DaK K H v s.dat
  | _, _, .set h e => .mk h (.cons (.str _) (.cons (.str _) (.cons e.da .nil)))
  | _, _, .ite h e b t c f => .mk h (.cons (.str _) (.cons e.da (.cons (.mk b (Bv.da t)) (.cons (.mk c (Bv.da f)) .nil))))
  | _, _, .whn h b t c f => .mk h (.cons (.str _) (.cons (.str _) (.cons (.mk b (Bv.da t)) (.cons (.mk c (Bv.da f)) .nil))))
  | _, _, .draw h => .mk h (.cons (.str _) (.cons (.str _) (.cons (.int _) .nil)))
  | _, _, .move h => .mk h (.cons (.str _) (.cons (.int _) (.cons (.str _) (.cons (.int _) (.cons (.int _) .nil)))))
  | _, _, .show h e => .mk h (.cons (.str _) (.cons (.int _) (.cons e.da .nil)))
  | _, _, .pay h e => .mk h (.cons (.str _) (.cons e.da .nil))
theorem Bv.da : ∀ {vs : List V} {ss : List St}, Bv K H vs ss → Paired (DaK K H) vs (datL ss)
  | _, _, .nil => .nil
  | _, _, .cons h t => .cons (Sv.da h) (Bv.da t)
end
end
theorem stags_ok : PyData.strOk "set" = true ∧ PyData.strOk "if" = true ∧ PyData.strOk "when" = true ∧ PyData.strOk "draw" = true ∧ PyData.strOk "move" = true ∧ PyData.strOk "show" = true ∧ PyData.strOk "pay" = true ∧ PyData.strOk "take" = true := by decide +kernel
mutual
theorem sdat_lay {ns ps : List Str} (hn : ∀ x ∈ ns, PyData.strOk x = true) (hp : ∀ x ∈ ps, PyData.strOk x = true) : ∀ s : St, s.Wf ns ps → s.dat.canLay0 = true
  | .set x e, h => by
    obtain ⟨k1, k2, k3, k4, k5, k6, k7, k8⟩ := stags_ok
    simp [St.dat, PyData.canLay0, PyData.canLayAll0, k1, hn x h.1, dat_lay hn hp e h.2.1]
  | .ite e t f, h => by
    obtain ⟨k1, k2, k3, k4, k5, k6, k7, k8⟩ := stags_ok
    simp [St.dat, PyData.canLay0, PyData.canLayAll0, k2, dat_lay hn hp e h.1.1, ldat_lay hn hp t h.2.1, ldat_lay hn hp f h.2.2]
  | .whn o t f, h => by
    obtain ⟨k1, k2, k3, k4, k5, k6, k7, k8⟩ := stags_ok
    simp [St.dat, PyData.canLay0, PyData.canLayAll0, k3, hp o h.1, ldat_lay hn hp t h.2.1, ldat_lay hn hp f h.2.2]
  | .draw x n, h => by
    obtain ⟨k1, k2, k3, k4, k5, k6, k7, k8⟩ := stags_ok
    have hx : x ∈ ns := h
    simp [St.dat, PyData.canLay0, PyData.canLayAll0, k4, hn x hx]
  | .move p x n k, h => by
    obtain ⟨k1, k2, k3, k4, k5, k6, k7, k8⟩ := stags_ok
    have hx : x ∈ ns := h
    simp [St.dat, PyData.canLay0, PyData.canLayAll0, k5, hn x hx]
  | .show a e, h => by
    obtain ⟨k1, k2, k3, k4, k5, k6, k7, k8⟩ := stags_ok
    simp [St.dat, PyData.canLay0, PyData.canLayAll0, k6, dat_lay hn hp e h.1]
  | .pay s e, h => by
    obtain ⟨k1, k2, k3, k4, k5, k6, k7, k8⟩ := stags_ok
    have ks : PyData.strOk s = true := by
      rcases h.1 with e | e
      · rw [e]; exact k7
      · rw [e]; exact k8
    simp [St.dat, PyData.canLay0, PyData.canLayAll0, ks, dat_lay hn hp e h.2.1]
theorem ldat_lay {ns ps : List Str} (hn : ∀ x ∈ ns, PyData.strOk x = true) (hp : ∀ x ∈ ps, PyData.strOk x = true) : ∀ ss : List St, WfL ns ps ss → PyData.canLayAll0 (datL ss) = true
  | [], _ => by simp [datL, PyData.canLayAll0]
  | s :: r, h => by simp [datL, PyData.canLayAll0, sdat_lay hn hp s h.1, ldat_lay hn hp r h.2]
end
mutual
theorem sdat_depth {ns ps : List Str} : ∀ s : St, s.Wf ns ps → s.dat.depth ≤ 2 * s.lv + 14
  | .set x e, h => by
    have := h.2.2
    simp only [St.dat, PyData.depth, PyData.depthAll, dat_depth, St.lv]
    omega
  | .ite e t f, h => by
    have := h.1.2
    have := ldat_depth t h.2.1
    have := ldat_depth f h.2.2
    simp only [St.dat, PyData.depth, PyData.depthAll, dat_depth, St.lv]
    omega
  | .whn o t f, h => by
    have := ldat_depth t h.2.1
    have := ldat_depth f h.2.2
    simp only [St.dat, PyData.depth, PyData.depthAll, St.lv]
    omega
  | .draw x n, _ => by simp only [St.dat, PyData.depth, PyData.depthAll, St.lv]; omega
  | .move p x n k, _ => by simp only [St.dat, PyData.depth, PyData.depthAll, St.lv]; omega
  | .show a e, h => by
    have := h.2
    simp only [St.dat, PyData.depth, PyData.depthAll, dat_depth, St.lv]
    omega
  | .pay s e, h => by
    have := h.2.2
    simp only [St.dat, PyData.depth, PyData.depthAll, dat_depth, St.lv]
    omega
theorem ldat_depth {ns ps : List Str} : ∀ ss : List St, WfL ns ps ss → PyData.depthAll (datL ss) ≤ 2 * lvL ss + 14
  | [], _ => by simp [datL, PyData.depthAll]
  | s :: r, h => by
    have := sdat_depth s h.1
    have := ldat_depth r h.2
    simp only [datL, PyData.depthAll, lvL]
    omega
end
mutual
theorem sdat_wide : ∀ s : St, s.sz ≤ 1000000 → wide s.dat = true
  | .set x e, _ => by simp [St.dat, wide, wideAll, dat_wide]
  | .ite e t f, h => by
    have h : 1 + szL t + szL f ≤ 1000000 := h
    have h1 := len_sz t
    have h2 := len_sz f
    have l1 : decide ((datL t).length ≤ 1000000) = true := decide_eq_true (by rw [datL_len]; omega)
    have l2 : decide ((datL f).length ≤ 1000000) = true := decide_eq_true (by rw [datL_len]; omega)
    simp only [St.dat, wide, wideAll, dat_wide, ldat_wide t (by omega), ldat_wide f (by omega), l1, l2]
    rfl
  | .whn o t f, h => by
    have h : 1 + szL t + szL f ≤ 1000000 := h
    have h1 := len_sz t
    have h2 := len_sz f
    have l1 : decide ((datL t).length ≤ 1000000) = true := decide_eq_true (by rw [datL_len]; omega)
    have l2 : decide ((datL f).length ≤ 1000000) = true := decide_eq_true (by rw [datL_len]; omega)
    simp only [St.dat, wide, wideAll, ldat_wide t (by omega), ldat_wide f (by omega), l1, l2]
    rfl
  | .draw x n, _ => by simp [St.dat, wide, wideAll]
  | .move p x n k, _ => by simp [St.dat, wide, wideAll]
  | .show a e, _ => by simp [St.dat, wide, wideAll, dat_wide]
  | .pay s e, _ => by simp [St.dat, wide, wideAll, dat_wide]
theorem ldat_wide : ∀ ss : List St, szL ss ≤ 1000000 → wideAll (datL ss) = true
  | [], _ => by simp [datL, wideAll]
  | s :: r, h => by
    have h : s.sz + szL r ≤ 1000000 := h
    simp only [datL, wideAll, sdat_wide s (by omega), ldat_wide r (by omega)]
    rfl
end
theorem stag_ne : ("set" : Str) ≠ "if" ∧ ("set" : Str) ≠ "when" ∧ ("draw" : Str) ≠ "if" ∧ ("draw" : Str) ≠ "when" ∧ ("draw" : Str) ≠ "set" ∧ ("draw" : Str) ≠ "show" ∧ ("move" : Str) ≠ "if" ∧ ("move" : Str) ≠ "when" ∧ ("move" : Str) ≠ "set" ∧ ("move" : Str) ≠ "show" ∧
    ("show" : Str) ≠ "if" ∧ ("show" : Str) ≠ "when" ∧ ("show" : Str) ≠ "set" ∧ ("pay" : Str) ≠ "if" ∧ ("pay" : Str) ≠ "when" ∧ ("pay" : Str) ≠ "set" ∧ ("pay" : Str) ≠ "show" ∧ ("take" : Str) ≠ "if" ∧ ("take" : Str) ≠ "when" ∧ ("take" : Str) ≠ "set" ∧ ("take" : Str) ≠ "show" ∧
    ("when" : Str) ≠ "if" ∧ ("draw" : Str) ≠ "pay" ∧ ("draw" : Str) ≠ "take" ∧ ("move" : Str) ≠ "pay" ∧ ("move" : Str) ≠ "take" ∧ ("draw" : Str) ≠ "move" ∧ ("pay" : Str) ≠ "take" ∧ ("set" : Str) ≠ "move" ∧ ("set" : Str) ≠ "draw" ∧ ("show" : Str) ≠ "move" ∧ ("show" : Str) ≠ "draw" ∧
    ("if" : Str) ≠ "draw" ∧ ("if" : Str) ≠ "move" ∧ ("when" : Str) ≠ "draw" ∧ ("when" : Str) ≠ "move" ∧ ("pay" : Str) ≠ "draw" ∧ ("pay" : Str) ≠ "move" ∧ ("take" : Str) ≠ "draw" ∧ ("take" : Str) ≠ "move" := by decide +kernel
mutual
/-- equal data are equal statements -/
theorem sdat_eqv {ns ps : List Str} : ∀ a b : St, a.Wf ns ps → b.Wf ns ps → PyData.eqv a.dat b.dat = true → a = b
  | .set x e, b, ha, hb, h => by
    obtain ⟨m1, m2, m3, m4, m5, m6, m7, m8, m9, m10, m11, m12, m13, m14, m15, m16, m17, m18, m19, m20, m21, m22, m23, m24, m25, m26, m27, m28, m29, m30, m31, m32, m33, m34, m35, m36, m37, m38, m39, m40⟩ := stag_ne
    cases b with
    | set y f =>
      simp only [St.dat, eqv_t, eqv_c, eqv_s, eqv_nn, Bool.and_eq_true, beq_iff_eq, and_true, true_and] at h
      rw [h.1, dat_eqv e f h.2]
    | draw y n => simp only [St.dat, eqv_t, eqv_c, eqv_s, Bool.and_eq_true, beq_iff_eq, m30, false_and] at h
    | «show» y f => simp only [St.dat, eqv_t, eqv_c, eqv_s, Bool.and_eq_true, beq_iff_eq, m13.symm, false_and] at h
    | _ => simp only [St.dat, eqv_t, eqv_c, eqv_s, eqv_nc, eqv_cn, Bool.and_eq_true, and_false, Bool.false_eq_true] at h
  | .ite e t f, b, ha, hb, h => by
    obtain ⟨m1, m2, m3, m4, m5, m6, m7, m8, m9, m10, m11, m12, m13, m14, m15, m16, m17, m18, m19, m20, m21, m22, m23, m24, m25, m26, m27, m28, m29, m30, m31, m32, m33, m34, m35, m36, m37, m38, m39, m40⟩ := stag_ne
    cases b with
    | ite y u v =>
      simp only [St.dat, eqv_t, eqv_c, eqv_s, eqv_nn, Bool.and_eq_true, beq_iff_eq, and_true, true_and] at h
      rw [dat_eqv e y h.1, ldat_eqv t u ha.2.1 hb.2.1 h.2.1, ldat_eqv f v ha.2.2 hb.2.2 h.2.2]
    | whn y u v => simp only [St.dat, eqv_t, eqv_c, eqv_s, Bool.and_eq_true, beq_iff_eq, m22.symm, false_and] at h
    | _ => simp only [St.dat, eqv_t, eqv_c, eqv_s, eqv_nc, eqv_cn, Bool.and_eq_true, and_false, Bool.false_eq_true] at h
  | .whn e t f, b, ha, hb, h => by
    obtain ⟨m1, m2, m3, m4, m5, m6, m7, m8, m9, m10, m11, m12, m13, m14, m15, m16, m17, m18, m19, m20, m21, m22, m23, m24, m25, m26, m27, m28, m29, m30, m31, m32, m33, m34, m35, m36, m37, m38, m39, m40⟩ := stag_ne
    cases b with
    | whn y u v =>
      simp only [St.dat, eqv_t, eqv_c, eqv_s, eqv_nn, Bool.and_eq_true, beq_iff_eq, and_true, true_and] at h
      rw [h.1, ldat_eqv t u ha.2.1 hb.2.1 h.2.1, ldat_eqv f v ha.2.2 hb.2.2 h.2.2]
    | ite y u v => simp only [St.dat, eqv_t, eqv_c, eqv_s, Bool.and_eq_true, beq_iff_eq, m22, false_and] at h
    | _ => simp only [St.dat, eqv_t, eqv_c, eqv_s, eqv_nc, eqv_cn, Bool.and_eq_true, and_false, Bool.false_eq_true] at h
  | .draw x n, b, ha, hb, h => by
    obtain ⟨m1, m2, m3, m4, m5, m6, m7, m8, m9, m10, m11, m12, m13, m14, m15, m16, m17, m18, m19, m20, m21, m22, m23, m24, m25, m26, m27, m28, m29, m30, m31, m32, m33, m34, m35, m36, m37, m38, m39, m40⟩ := stag_ne
    cases b with
    | draw y m =>
      simp only [St.dat, eqv_t, eqv_c, eqv_s, eqv_i, eqv_nn, Bool.and_eq_true, beq_iff_eq, and_true, true_and] at h
      rw [h.1, h.2]
    | set y f => simp only [St.dat, eqv_t, eqv_c, eqv_s, Bool.and_eq_true, beq_iff_eq, m5, false_and] at h
    | «show» y f => simp only [St.dat, eqv_t, eqv_c, eqv_s, Bool.and_eq_true, beq_iff_eq, m6, false_and] at h
    | _ => simp only [St.dat, eqv_t, eqv_c, eqv_s, eqv_nc, eqv_cn, Bool.and_eq_true, and_false, Bool.false_eq_true] at h
  | .move p x n k, b, ha, hb, h => by
    cases b with
    | move q y m l =>
      simp only [St.dat, eqv_t, eqv_c, eqv_s, eqv_i, eqv_nn, Bool.and_eq_true, beq_iff_eq, and_true, true_and] at h
      rw [h.1, h.2.1, h.2.2.1, h.2.2.2]
    | _ => simp only [St.dat, eqv_t, eqv_c, eqv_s, eqv_nc, eqv_cn, Bool.and_eq_true, and_false, Bool.false_eq_true] at h
  | .show p x, b, ha, hb, h => by
    obtain ⟨m1, m2, m3, m4, m5, m6, m7, m8, m9, m10, m11, m12, m13, m14, m15, m16, m17, m18, m19, m20, m21, m22, m23, m24, m25, m26, m27, m28, m29, m30, m31, m32, m33, m34, m35, m36, m37, m38, m39, m40⟩ := stag_ne
    cases b with
    | «show» q y =>
      simp only [St.dat, eqv_t, eqv_c, eqv_s, eqv_i, eqv_nn, Bool.and_eq_true, beq_iff_eq, and_true, true_and] at h
      rw [h.1, dat_eqv x y h.2]
    | set y f => simp only [St.dat, eqv_t, eqv_c, eqv_s, Bool.and_eq_true, beq_iff_eq, m13, false_and] at h
    | draw y f => simp only [St.dat, eqv_t, eqv_c, eqv_s, Bool.and_eq_true, beq_iff_eq, m32, false_and] at h
    | _ => simp only [St.dat, eqv_t, eqv_c, eqv_s, eqv_nc, eqv_cn, Bool.and_eq_true, and_false, Bool.false_eq_true] at h
  | .pay s e, b, ha, hb, h => by
    cases b with
    | pay q y =>
      simp only [St.dat, eqv_t, eqv_c, eqv_s, eqv_nn, Bool.and_eq_true, beq_iff_eq, and_true, true_and] at h
      rw [h.1, dat_eqv e y h.2]
    | _ => simp only [St.dat, eqv_t, eqv_c, eqv_s, eqv_nc, eqv_cn, Bool.and_eq_true, and_false, Bool.false_eq_true] at h
theorem ldat_eqv {ns ps : List Str} : ∀ a b : List St, WfL ns ps a → WfL ns ps b → PyData.eqvAll (datL a) (datL b) = true → a = b
  | [], [], _, _, _ => rfl
  | [], _ :: _, _, _, h => by simp only [datL, eqv_nc, Bool.false_eq_true] at h
  | _ :: _, [], _, _, h => by simp only [datL, eqv_cn, Bool.false_eq_true] at h
  | a :: r, b :: q, ha, hb, h => by
    simp only [datL, eqv_c, Bool.and_eq_true] at h
    rw [sdat_eqv a b ha.1 hb.1 h.1, ldat_eqv r q ha.2 hb.2 h.2]
end


/-! ### reading blocks of a game -/
inductive BkR where
  | ok (ss : List St) (j : Nat) (st : Nat × Nat)
  | bad (j : Nat)
inductive StR where
  | ok (s : St) (j : Nat) (st : Nat × Nat)
  | bad (j : Nat)
def seatL : List Str := ["both", "first", "second"]
def ixS (l : List Str) (x : Str) : Nat := l.findIdx fun y => decide (y = x)
theorem ixS_get {l : List Str} {x : Str} (h : x ∈ l) : l[ixS l x]? = some x ∧ ∀ m, m < ixS l x → l[m]? ≠ some x := by
  have hlt : ixS l x < l.length := List.findIdx_lt_length_of_exists ⟨x, h, decide_eq_true rfl⟩
  refine ⟨?_, fun m hm e => ?_⟩
  · rw [List.getElem?_eq_getElem hlt]
    have := List.findIdx_getElem (xs := l) (p := fun y => decide (y = x)) (w := hlt)
    exact congrArg some (of_decide_eq_true this)
  · have hml : m < l.length := Nat.lt_trans hm hlt
    have := List.not_of_lt_findIdx (xs := l) (p := fun y => decide (y = x)) hm
    rw [List.getElem?_eq_getElem hml] at e
    rw [Option.some.inj e] at this
    simp at this
theorem ixS_lt {l : List Str} {x : Str} (h : x ∈ l) : ixS l x < l.length := List.findIdx_lt_length_of_exists ⟨x, h, decide_eq_true rfl⟩
theorem str_of_map {ns : List Str} {i : Nat} {y : V} (hi : (ns.map V.str)[i]? = some y) : ∃ z, ns[i]? = some z ∧ y = V.str z := by
  rw [List.getElem?_map] at hi
  cases e : ns[i]? with
  | none => rw [e] at hi; cases hi
  | some u => rw [e] at hi; exact ⟨u, rfl, (Option.some.inj hi).symm⟩
theorem eqV_str {a b : Str} : eqV (V.str a) (V.str b) = decide (a = b) := by
  show (a == b) = _
  by_cases h : a = b
  · rw [decide_eq_true h, h]
    exact beq_self_eq_true b
  · rw [decide_eq_false h]
    exact beq_eq_false_iff_ne.mpr h
theorem list_ix {ns : List Str} {x : Str} (m : x ∈ ns) : (ns.map V.str)[ixS ns x]? = some (V.str x) ∧ eqV (V.str x) (V.str x) = true ∧ ∀ (m : Nat) (z' : V), m < ixS ns x → (ns.map V.str)[m]? = some z' → eqV z' (V.str x) = false := by
  obtain ⟨g1, g2⟩ := ixS_get m
  refine ⟨?_, ?_, fun m z hm hz => ?_⟩
  · rw [List.getElem?_map, g1]
    rfl
  · rw [eqV_str]
    exact decide_eq_true rfl
  · obtain ⟨y, hy, rfl⟩ := str_of_map hz
    rw [eqV_str]
    exact decide_eq_false fun z => g2 m hm (by rw [hy, z])
def seatN (x : Str) : Int := ((ixS seatL x : Nat) : Int)
def nameM (ws l : List Str) (i : Nat) : Option Str := match ws[i]? with
  | some x => if x ∈ l then some x else none
  | none => none
def numM (ws : List Str) (lo hi : Nat) (i : Nat) : Option Nat := match ws[i]? with
  | some x => match numOf x with
    | some n => if lo ≤ n ∧ n ≤ hi then some n else none
    | none => none
  | none => none
def opensB (c : CuI) (lvl : Nat) (st : Nat × Nat) : List Str := ((["show", "pay", "take"] : List Str) ++ (if 0 < lvl then ((["if"] : List Str) ++ if (!c.ops.isEmpty) = true then (["when"] : List Str) else []) else [])) ++
  (if (!c.vars.isEmpty) = true then ((["set"] : List Str) ++ if st.1 + st.2 < 24 then (["draw", "first", "second"] : List Str) else []) else [])
def endM (c : CuI) (s : St) (j : Nat) (st : Nat × Nat) : StR := if c.ws[j]? = some ("end" : Str) then .ok s (j + 1) st else .bad j
def branchM (c : CuI) (g : Nat → Nat × Nat → BkR) (mk : List St → List St → St) (i : Nat) (st : Nat × Nat) : StR := match g i st with
  | .bad j => .bad j
  | .ok t j st1 => if c.ws[j]? = some ("else" : Str) then (match g (j + 1) st1 with
      | .bad j' => .bad j'
      | .ok f j' st2 => if f = [] then .bad j' else endM c (mk t f) j' st2)
    else endM c (mk t []) j st1
def choiceM (c : CuI) (x : Str) (i : Nat) (st : Nat × Nat) : StR := match nameM c.ws c.vars i with
  | none => .bad i
  | some y => if x = "draw" then (match numM c.ws 1 64 (i + 1) with
      | none => .bad (i + 1)
      | some n => .ok (.draw y n) (i + 2) (st.1 + 1, st.2))
    else match numM c.ws 1 8 (i + 1) with
      | none => .bad (i + 1)
      | some n => .ok (.move (seatN x) y n st.2) (i + 2) (st.1, st.2 + 1)
def exprM (c : CuI) (mk : Ex → St) (i : Nat) (st : Nat × Nat) : StR := match readM c 12 i with
  | .bad j => .bad j
  | .ok e j => .ok (mk e) j st
/-- the statement that begins with x, which stands ahead of i -/
def stmtM (c : CuI) (g : Nat → Nat × Nat → BkR) (x : Str) (i : Nat) (st : Nat × Nat) : StR :=
  if x = "if" then (match readM c 12 i with
    | .bad j => .bad j
    | .ok e j => branchM c g (.ite e) j st)
  else if x = "when" then (match nameM c.ws c.ops i with
    | none => .bad i
    | some o => branchM c g (.whn o) (i + 1) st)
  else if x = "show" then (match nameM c.ws seatL i with
    | none => .bad i
    | some s => exprM c (.show (seatN s)) (i + 1) st)
  else if x = "set" then (match nameM c.ws c.vars i with
    | none => .bad i
    | some y => exprM c (.set y) (i + 1) st)
  else if x ∈ (["draw", "first", "second"] : List Str) then choiceM c x i st
  else exprM c (.pay x) i st
def loopM (f : Nat → Nat × Nat → Option StR) : Nat → Nat → Nat × Nat → BkR
  | 0, i, st => .ok [] i st
  | n + 1, i, st => match f i st with
    | none => .ok [] i st
    | some (.bad j) => .bad j
    | some (.ok s j st') => match loopM f n j st' with
      | .bad j' => .bad j'
      | .ok ss j' st'' => .ok (s :: ss) j' st''
def headM (c : CuI) (lvl : Nat) (g : Nat → Nat × Nat → BkR) (i : Nat) (st : Nat × Nat) : Option StR := match c.ws[i]? with
  | none => none
  | some x => if x ∈ opensB c lvl st then some (stmtM c g x (i + 1) st) else none
def blockM (c : CuI) : Nat → Nat → Nat × Nat → BkR
  | 0, i, st => loopM (headM c 0 fun j st => .ok [] j st) (c.ws.length + 1) i st
  | l + 1, i, st => loopM (headM c (l + 1) (blockM c l)) (c.ws.length + 1) i st
def preR (ss : List St) : BkR → BkR
  | .bad j => .bad j
  | .ok ts j st => .ok (ss ++ ts) j st
/-- the reader of blocks -/
def Rdr (C : Addr) (H : Hp) (r ca : Addr) (st : Nat × Nat) : Prop := ∃ dx, H r = some (.ins C dx [("_cursor", .ref ca), ("_draws", .int (st.1 : Nat)), ("_moves", .int (st.2 : Nat))])
theorem rdNd {ca : Addr} {a b : Int} : ((([("_cursor", V.ref ca), ("_draws", .int a), ("_moves", .int b)] : List (Str × V))).map (·.1)).Nodup := by
  show (["_cursor", "_draws", "_moves"] : List Str).Nodup
  decide +kernel
theorem rd_no {ca : Addr} {a b : Int} {m : Str} (h : m ∉ (["_cursor", "_draws", "_moves"] : List Str)) : ([("_cursor", V.ref ca), ("_draws", .int a), ("_moves", .int b)] : List (Str × V)).lookup m = none := lk_none h
theorem rd_meths : ("read_block" : Str) ∉ (["_cursor", "_draws", "_moves"] : List Str) ∧ ("_openings" : Str) ∉ (["_cursor", "_draws", "_moves"] : List Str) ∧ ("_read_statement" : Str) ∉ (["_cursor", "_draws", "_moves"] : List Str) ∧ ("_read_choice" : Str) ∉ (["_cursor", "_draws", "_moves"] : List Str) ∧ ("_read_branches" : Str) ∉ (["_cursor", "_draws", "_moves"] : List Str) := by decide +kernel
/-- but what stands at a and r -/
def But2 (a r : Addr) (H H' : Hp) : Prop := ∀ b o, b ≠ a → b ≠ r → H b = some o → H' b = some o
theorem But2.refl (a r : Addr) (H : Hp) : But2 a r H H := fun _ _ _ _ h => h
theorem But2.trans {a r : Addr} {H H1 H2 : Hp} (x : But2 a r H H1) (y : But2 a r H1 H2) : But2 a r H H2 := fun c o n m h => y c o n m (x c o n m h)
theorem but2_l {a r : Addr} {H H' : Hp} (b : But a H H') : But2 a r H H' := fun c o n _ h => b c o n h
theorem but2_r {a r : Addr} {H H' : Hp} (b : But r H H') : But2 a r H H' := fun c o _ n h => b c o n h
theorem but2_s {a r : Addr} {H H' : Hp} (s : Same H H') : But2 a r H H' := fun c o _ _ h => s c o h
/-- the reader with its cursor, at a place -/
structure RdS (K : PySem.W.Frag) (CC CR : Addr) (H : Hp) (c : CuI) (r : Addr) (i : Nat) (st : Nat × Nat) : Prop where
  cu : CuX K CC H c i
  rd : Rdr CR H r c.a st
  ne : c.a ≠ r
theorem RdS.same {K : PySem.W.Frag} {CC CR : Addr} {H H' : Hp} {c : CuI} {r : Addr} {i : Nat} {st : Nat × Nat} (h : RdS K CC CR H c r i st) (s : Same H H') : RdS K CC CR H' c r i st := by
  obtain ⟨a, ⟨dx, b⟩, n⟩ := h
  exact ⟨a.same s, ⟨dx, s _ _ b⟩, n⟩
theorem RdS.moved {K : PySem.W.Frag} {CC CR : Addr} {H H' : Hp} {c : CuI} {r : Addr} {i j : Nat} {st : Nat × Nat} (h : RdS K CC CR H c r i st) (b : But c.a H H') (g : CuX K CC H' c j) : RdS K CC CR H' c r j st := by
  obtain ⟨a, ⟨dx, e⟩, n⟩ := h
  exact ⟨g, ⟨dx, b _ _ n.symm e⟩, n⟩
theorem RdS.keepT {K : PySem.W.Frag} {CC CR : Addr} {H H' : Hp} {c : CuI} {r : Addr} {i : Nat} {st : Nat × Nat} (h : RdS K CC CR H c r i st) (b : But2 c.a r H H') : KeepT H H' := by
  obtain ⟨⟨_, ⟨dx, a⟩, _⟩, ⟨dy, e⟩, _⟩ := h
  exact fun z xs g => b z _ (fun y => by rw [y, a] at g; cases g) (fun y => by rw [y, e] at g; cases g) g
def BkK (K : PySem.W.Frag) (CC CR B : Addr) (H : Hp) (c : CuI) (r : Addr) (x : BkR) (Q : VK) (E : XK) : Prop := match x with
  | .ok ss j st => ∀ p vs H', But2 c.a r H H' → H' p = some (.tup vs) → Bv K H' vs ss → RdS K CC CR H' c r j st → Q (.ref p) H'
  | .bad j => ∀ d H', But2 c.a r H H' → H' d = some (.xd [("at", .int (j : Nat))]) → E (.ref B) (some d) H'
def StK (K : PySem.W.Frag) (CC CR B : Addr) (H : Hp) (c : CuI) (r : Addr) (x : StR) (Q : VK) (E : XK) : Prop := match x with
  | .ok s j st => ∀ v H', But2 c.a r H H' → Sv K H' v s → RdS K CC CR H' c r j st → Q v H'
  | .bad j => ∀ d H', But2 c.a r H H' → H' d = some (.xd [("at", .int (j : Nat))]) → E (.ref B) (some d) H'
theorem BkK.mono {K : PySem.W.Frag} {CC CR B : Addr} {H H1 : Hp} {c : CuI} {r : Addr} {x : BkR} {Q : VK} {E : XK} (b : But2 c.a r H H1) (h : BkK K CC CR B H c r x Q E) : BkK K CC CR B H1 c r x Q E := by
  cases x with
  | ok ss j st => exact fun p vs H' b1 => h p vs H' (b.trans b1)
  | bad j => exact fun d H' b1 => h d H' (b.trans b1)
theorem StK.mono {K : PySem.W.Frag} {CC CR B : Addr} {H H1 : Hp} {c : CuI} {r : Addr} {x : StR} {Q : VK} {E : XK} (b : But2 c.a r H H1) (h : StK K CC CR B H c r x Q E) : StK K CC CR B H1 c r x Q E := by
  cases x with
  | ok s j st => exact fun v H' b1 => h v H' (b.trans b1)
  | bad j => exact fun d H' b1 => h d H' (b.trans b1)
theorem numM_some {ws : List Str} {lo hi i n : Nat} {x : Str} (e : ws[i]? = some x) (h : n ≤ 65535) (f : x.cps.toList = TL.numL n) (l : lo ≤ n ∧ n ≤ hi) : numM ws lo hi i = some n := by
  unfold numM
  rw [e]
  show (match numOf x with
    | some n => if lo ≤ n ∧ n ≤ hi then some n else none
    | none => none) = _
  rw [numOf_some h f]
  show (if lo ≤ n ∧ n ≤ hi then some n else none) = _
  rw [if_pos l]
theorem numM_none {ws : List Str} {lo hi i : Nat} (h : ∀ x v, ws[i]? = some x → ¬ Fit (.num lo hi) x v) : numM ws lo hi i = none := by
  unfold numM
  cases e : ws[i]? with
  | none => rfl
  | some x =>
    show (match numOf x with
      | some n => if lo ≤ n ∧ n ≤ hi then some n else none
      | none => none) = _
    cases f : numOf x with
    | none => rfl
    | some n =>
      show (if lo ≤ n ∧ n ≤ hi then some n else none) = _
      obtain ⟨n1, n2⟩ := numOf_of f
      rw [if_neg fun l => h x (.int n) e ⟨n, n1, n2, by omega, by omega, rfl⟩]
theorem nameM_some {ws l : List Str} {i : Nat} {x : Str} (e : ws[i]? = some x) (m : x ∈ l) : nameM ws l i = some x := by
  unfold nameM
  rw [e]
  show (if x ∈ l then some x else none) = _
  rw [if_pos m]
theorem nameM_none {ws l : List Str} {i : Nat} (h : ∀ x v, ws[i]? = some x → ¬ Fit (.name l) x v) : nameM ws l i = none := by
  unfold nameM
  cases e : ws[i]? with
  | none => rfl
  | some x =>
    show (if x ∈ l then some x else none) = _
    rw [if_neg fun m => h x (.str x) e ⟨m, rfl⟩]
def prevM (c : CuI) : Nat → Nat → Nat × Nat → BkR
  | 0 => fun j st => .ok [] j st
  | l + 1 => blockM c l
theorem blockM_eq (c : CuI) (lvl i : Nat) (st : Nat × Nat) : blockM c lvl i st = loopM (headM c lvl (prevM c lvl)) (c.ws.length + 1) i st := by
  cases lvl <;> rfl

/-! ### what is read is well-formed, and words are passed -/
theorem twoR_ok {f : Ex → Ex → Ex} {g : Nat → RdR} {i : Nat} {e : Ex} {j : Nat} (h : twoR f g i = .ok e j) : ∃ a b j1, g i = .ok a j1 ∧ g j1 = .ok b j ∧ e = f a b := by
  unfold twoR at h
  cases e1 : g i with
  | bad => rw [e1] at h; cases h
  | ok a j1 =>
    rw [e1] at h
    replace h : (match g j1 with
      | .bad j' => RdR.bad j'
      | .ok b j' => .ok (f a b) j') = .ok e j := h
    cases e2 : g j1 with
    | bad => rw [e2] at h; cases h
    | ok b j2 =>
      rw [e2] at h
      cases h
      exact ⟨a, b, j1, rfl, e2, rfl⟩
theorem partsR_ok {c : CuI} {g : Nat → RdR} {k i : Nat} {x : Str} {e : Ex} {j : Nat} (hg : ∀ i e j, g i = .ok e j → e.Wf c.vars c.ops ∧ e.deep ≤ k ∧ i < j) (m : x ∈ openAll) (h : partsR c g x i = .ok e j) : e.Wf c.vars c.ops ∧ e.deep ≤ k + 1 ∧ i ≤ j := by
  unfold partsR at h
  by_cases x1 : x = "long"
  · rw [if_pos x1] at h
    cases h
    exact ⟨trivial, by show 1 ≤ k + 1; omega, Nat.le_refl _⟩
  rw [if_neg x1] at h
  by_cases x2 : x = "view"
  · rw [if_pos x2] at h
    unfold oneR at h
    cases e1 : g i with
    | bad => rw [e1] at h; cases h
    | ok a j1 =>
      rw [e1] at h
      cases h
      obtain ⟨w, d, l⟩ := hg _ _ _ e1
      exact ⟨w, by show a.deep + 1 ≤ k + 1; omega, by omega⟩
  rw [if_neg x2] at h
  by_cases x3 : x = "pick"
  · rw [if_pos x3] at h
    cases eo : c.ws[i]? with
    | none => rw [eo] at h; cases h
    | some o =>
      rw [eo] at h
      replace h : (if o ∈ c.ops then twoR (.pick o) g (i + 1) else .bad i) = .ok e j := h
      by_cases mo : o ∈ c.ops
      · rw [if_pos mo] at h
        obtain ⟨a, b, j1, h1, h2, rfl⟩ := twoR_ok h
        obtain ⟨w1, d1, l1⟩ := hg _ _ _ h1
        obtain ⟨w2, d2, l2⟩ := hg _ _ _ h2
        exact ⟨⟨mo, w1, w2⟩, by show max a.deep b.deep + 1 ≤ k + 1; omega, by omega⟩
      · rw [if_neg mo] at h
        cases h
  rw [if_neg x3] at h
  obtain ⟨a, b, j1, h1, h2, rfl⟩ := twoR_ok h
  obtain ⟨w1, d1, l1⟩ := hg _ _ _ h1
  obtain ⟨w2, d2, l2⟩ := hg _ _ _ h2
  have mo : x ∈ opL := by
    rcases List.mem_append.mp m with m | m
    · rcases List.mem_cons.mp m with m | m
      · exact absurd m x1
      rcases List.mem_cons.mp m with m | m
      · exact absurd m x2
      exact absurd (List.mem_singleton.mp m) x3
    · exact m
  exact ⟨⟨mo, w1, w2⟩, by show max a.deep b.deep + 1 ≤ k + 1; omega, by omega⟩
theorem readM_ok {c : CuI} : ∀ (k i : Nat) (e : Ex) (j : Nat), readM c k i = .ok e j → e.Wf c.vars c.ops ∧ e.deep ≤ k ∧ i < j
  | 0, _, _, _, h => by cases h
  | k + 1, i, e, j, h => by
    have ih := readM_ok (c := c) k
    unfold readM at h
    cases ew : c.ws[i]? with
    | none => rw [ew] at h; cases h
    | some x =>
      rw [ew] at h
      replace h : (if x ∈ c.vars then .ok (.var x) (i + 1) else if x ∈ opens c.se (!c.ops.isEmpty) (k + 1) then partsR c (readM c k) x (i + 1)
        else match numOf x with
          | some n => .ok (.num n) (i + 1)
          | none => RdR.bad i) = .ok e j := h
      by_cases m : x ∈ c.vars
      · rw [if_pos m] at h
        cases h
        exact ⟨m, by show 1 ≤ k + 1; omega, by omega⟩
      rw [if_neg m] at h
      by_cases o : x ∈ opens c.se (!c.ops.isEmpty) (k + 1)
      · rw [if_pos o] at h
        obtain ⟨w, d, l⟩ := partsR_ok ih (opens_all o) h
        exact ⟨w, d, by omega⟩
      rw [if_neg o] at h
      cases f : numOf x with
      | none => rw [f] at h; cases h
      | some n =>
        rw [f] at h
        cases h
        obtain ⟨n1, _⟩ := numOf_of f
        exact ⟨⟨by omega, by omega⟩, by show 1 ≤ k + 1; omega, by omega⟩
/-- what a block reader of a level gives -/
def GoodB (c : CuI) (l : Nat) (g : Nat → Nat × Nat → BkR) : Prop := ∀ i st ss j st', g i st = .ok ss j st' → WfL c.vars c.ops ss ∧ lvL ss ≤ l ∧ i ≤ j
theorem endM_ok {c : CuI} {s s' : St} {i j : Nat} {st st' : Nat × Nat} (h : endM c s i st = .ok s' j st') : s' = s ∧ j = i + 1 ∧ st' = st := by
  unfold endM at h
  by_cases e : c.ws[i]? = some ("end" : Str)
  · rw [if_pos e] at h
    cases h
    exact ⟨rfl, rfl, rfl⟩
  · rw [if_neg e] at h
    cases h
theorem branchM_ok {c : CuI} {l : Nat} {g : Nat → Nat × Nat → BkR} (hg : GoodB c l g) {mk : List St → List St → St} {i j : Nat} {st st' : Nat × Nat} {s : St} (h : branchM c g mk i st = .ok s j st') : ∃ t f, s = mk t f ∧ WfL c.vars c.ops t ∧ WfL c.vars c.ops f ∧ lvL t ≤ l ∧ lvL f ≤ l ∧ i < j := by
  unfold branchM at h
  cases e1 : g i st with
  | bad => rw [e1] at h; cases h
  | ok t j1 st1 =>
    rw [e1] at h
    obtain ⟨w1, l1, k1⟩ := hg _ _ _ _ _ e1
    replace h : (if c.ws[j1]? = some ("else" : Str) then (match g (j1 + 1) st1 with
      | .bad j' => StR.bad j'
      | .ok f j' st2 => if f = [] then .bad j' else endM c (mk t f) j' st2)
      else endM c (mk t []) j1 st1) = .ok s j st' := h
    by_cases ee : c.ws[j1]? = some ("else" : Str)
    · rw [if_pos ee] at h
      cases e2 : g (j1 + 1) st1 with
      | bad => rw [e2] at h; cases h
      | ok f j2 st2 =>
        rw [e2] at h
        replace h : (if f = [] then StR.bad j2 else endM c (mk t f) j2 st2) = .ok s j st' := h
        obtain ⟨w2, l2, k2⟩ := hg _ _ _ _ _ e2
        by_cases f0 : f = []
        · rw [if_pos f0] at h
          cases h
        · rw [if_neg f0] at h
          obtain ⟨rfl, rfl, _⟩ := endM_ok h
          exact ⟨t, f, rfl, w1, w2, l1, l2, by omega⟩
    · rw [if_neg ee] at h
      obtain ⟨rfl, rfl, _⟩ := endM_ok h
      exact ⟨t, [], rfl, w1, trivial, l1, Nat.zero_le _, by omega⟩
theorem nameM_of {ws l : List Str} {i : Nat} {x : Str} (h : nameM ws l i = some x) : ws[i]? = some x ∧ x ∈ l := by
  unfold nameM at h
  cases e : ws[i]? with
  | none => rw [e] at h; cases h
  | some y =>
    rw [e] at h
    replace h : (if y ∈ l then some y else none) = some x := h
    by_cases m : y ∈ l
    · rw [if_pos m] at h
      cases h
      exact ⟨rfl, m⟩
    · rw [if_neg m] at h
      cases h
theorem exprM_ok {c : CuI} {mk : Ex → St} {i j : Nat} {st st' : Nat × Nat} {s : St} (h : exprM c mk i st = .ok s j st') : ∃ e, s = mk e ∧ e.Wf c.vars c.ops ∧ e.deep ≤ 12 ∧ i < j := by
  unfold exprM at h
  cases e1 : readM c 12 i with
  | bad => rw [e1] at h; cases h
  | ok e j1 =>
    rw [e1] at h
    cases h
    obtain ⟨w, d, l⟩ := readM_ok _ _ _ _ e1
    exact ⟨e, rfl, w, d, l⟩
theorem choiceM_ok {c : CuI} {x : Str} {i j : Nat} {st st' : Nat × Nat} {s : St} (h : choiceM c x i st = .ok s j st') : s.Wf c.vars c.ops ∧ s.lv = 0 ∧ i < j := by
  unfold choiceM at h
  cases e1 : nameM c.ws c.vars i with
  | none => rw [e1] at h; cases h
  | some y =>
    rw [e1] at h
    replace h : (if x = "draw" then (match numM c.ws 1 64 (i + 1) with
        | none => StR.bad (i + 1)
        | some n => .ok (.draw y n) (i + 2) (st.1 + 1, st.2))
      else match numM c.ws 1 8 (i + 1) with
        | none => .bad (i + 1)
        | some n => .ok (.move (seatN x) y n st.2) (i + 2) (st.1, st.2 + 1)) = .ok s j st' := h
    have my := (nameM_of e1).2
    by_cases xd : x = "draw"
    · rw [if_pos xd] at h
      cases e2 : numM c.ws 1 64 (i + 1) with
      | none => rw [e2] at h; cases h
      | some n => rw [e2] at h; cases h; exact ⟨my, rfl, by omega⟩
    · rw [if_neg xd] at h
      cases e2 : numM c.ws 1 8 (i + 1) with
      | none => rw [e2] at h; cases h
      | some n => rw [e2] at h; cases h; exact ⟨my, rfl, by omega⟩
theorem stmtM_ok {c : CuI} {l : Nat} {g : Nat → Nat × Nat → BkR} {lvl : Nat} (hg : 0 < lvl → GoodB c l g ∧ l + 1 ≤ lvl) {x : Str} {st0 : Nat × Nat} (m : x ∈ opensB c lvl st0) {i j : Nat} {st st' : Nat × Nat} {s : St} (h : stmtM c g x i st = .ok s j st') : s.Wf c.vars c.ops ∧ s.lv ≤ lvl ∧ i < j := by
  have hx : (x = "if" ∨ x = "when") → 0 < lvl := fun z => by
    unfold opensB at m
    by_cases q : 0 < lvl
    · exact q
    · rw [if_neg q, List.append_nil] at m
      have t : ∀ y ∈ ((["show", "pay", "take"] : List Str) ++ ((["set"] : List Str) ++ (["draw", "first", "second"] : List Str))), y ≠ "if" ∧ y ≠ "when" := by decide +kernel
      have mm : x ∈ ((["show", "pay", "take"] : List Str) ++ ((["set"] : List Str) ++ (["draw", "first", "second"] : List Str))) := by
        rcases List.mem_append.mp m with m | m
        · exact List.mem_append_left _ m
        · refine List.mem_append_right _ ?_
          split at m
          · rcases List.mem_append.mp m with m | m
            · exact List.mem_append_left _ m
            · split at m
              · exact List.mem_append_right _ m
              · cases m
          · cases m
      rcases z with z | z
      · exact absurd z (t x mm).1
      · exact absurd z (t x mm).2
  unfold stmtM at h
  by_cases x1 : x = "if"
  · rw [if_pos x1] at h
    obtain ⟨hg, hl⟩ := hg (hx (.inl x1))
    cases e1 : readM c 12 i with
    | bad => rw [e1] at h; cases h
    | ok e j1 =>
      rw [e1] at h
      obtain ⟨w, d, k⟩ := readM_ok _ _ _ _ e1
      obtain ⟨t, f, rfl, w1, w2, l1, l2, k2⟩ := branchM_ok hg h
      exact ⟨⟨⟨w, by omega⟩, w1, w2⟩, by show max (lvL t) (lvL f) + 1 ≤ lvl; omega, by omega⟩
  rw [if_neg x1] at h
  by_cases x2 : x = "when"
  · rw [if_pos x2] at h
    obtain ⟨hg, hl⟩ := hg (hx (.inr x2))
    cases e1 : nameM c.ws c.ops i with
    | none => rw [e1] at h; cases h
    | some o =>
      rw [e1] at h
      obtain ⟨t, f, rfl, w1, w2, l1, l2, k2⟩ := branchM_ok hg h
      exact ⟨⟨(nameM_of e1).2, w1, w2⟩, by show max (lvL t) (lvL f) + 1 ≤ lvl; omega, by omega⟩
  rw [if_neg x2] at h
  by_cases x3 : x = "show"
  · rw [if_pos x3] at h
    cases e1 : nameM c.ws seatL i with
    | none => rw [e1] at h; cases h
    | some o =>
      rw [e1] at h
      obtain ⟨e, rfl, w, d, k⟩ := exprM_ok h
      exact ⟨⟨w, by omega⟩, Nat.zero_le _, by omega⟩
  rw [if_neg x3] at h
  by_cases x4 : x = "set"
  · rw [if_pos x4] at h
    cases e1 : nameM c.ws c.vars i with
    | none => rw [e1] at h; cases h
    | some o =>
      rw [e1] at h
      obtain ⟨e, rfl, w, d, k⟩ := exprM_ok h
      exact ⟨⟨(nameM_of e1).2, w, by omega⟩, Nat.zero_le _, by omega⟩
  rw [if_neg x4] at h
  by_cases x5 : x ∈ (["draw", "first", "second"] : List Str)
  · rw [if_pos x5] at h
    obtain ⟨w, d, k⟩ := choiceM_ok h
    exact ⟨w, by omega, k⟩
  rw [if_neg x5] at h
  obtain ⟨e, rfl, w, d, k⟩ := exprM_ok h
  have xp : x = "pay" ∨ x = "take" := by
    unfold opensB at m
    have t : ∀ y ∈ ((["show", "pay", "take"] : List Str) ++ (((["if"] : List Str) ++ (["when"] : List Str)) ++ ((["set"] : List Str) ++ (["draw", "first", "second"] : List Str)))), y = "if" ∨ y = "when" ∨ y = "show" ∨ y = "set" ∨ y ∈ (["draw", "first", "second"] : List Str) ∨ y = "pay" ∨ y = "take" := by decide +kernel
    have mm : x ∈ ((["show", "pay", "take"] : List Str) ++ (((["if"] : List Str) ++ (["when"] : List Str)) ++ ((["set"] : List Str) ++ (["draw", "first", "second"] : List Str)))) := by
      rcases List.mem_append.mp m with m | m
      · rcases List.mem_append.mp m with m | m
        · exact List.mem_append_left _ m
        · refine List.mem_append_right _ (List.mem_append_left _ ?_)
          split at m
          · rcases List.mem_append.mp m with m | m
            · exact List.mem_append_left _ m
            · split at m
              · exact List.mem_append_right _ m
              · cases m
          · cases m
      · refine List.mem_append_right _ (List.mem_append_right _ ?_)
        split at m
        · rcases List.mem_append.mp m with m | m
          · exact List.mem_append_left _ m
          · split at m
            · exact List.mem_append_right _ m
            · cases m
        · cases m
    rcases t x mm with z | z | z | z | z | z
    · exact absurd z x1
    · exact absurd z x2
    · exact absurd z x3
    · exact absurd z x4
    · exact absurd z x5
    · exact z
  exact ⟨⟨xp, w, by omega⟩, Nat.zero_le _, k⟩
theorem loopM_ok {c : CuI} {lvl : Nat} {f : Nat → Nat × Nat → Option StR} (hf : ∀ i st s j st', f i st = some (.ok s j st') → s.Wf c.vars c.ops ∧ s.lv ≤ lvl ∧ i < j) : ∀ n, GoodB c lvl (loopM f n)
  | 0, i, st, ss, j, st', h => by cases h; exact ⟨trivial, Nat.zero_le _, Nat.le_refl _⟩
  | n + 1, i, st, ss, j, st', h => by
    unfold loopM at h
    cases e1 : f i st with
    | none => rw [e1] at h; cases h; exact ⟨trivial, Nat.zero_le _, Nat.le_refl _⟩
    | some x =>
      cases x with
      | bad => rw [e1] at h; cases h
      | ok s j1 st1 =>
        rw [e1] at h
        replace h : (match loopM f n j1 st1 with
          | .bad j' => BkR.bad j'
          | .ok ss j' st'' => .ok (s :: ss) j' st'') = .ok ss j st' := h
        cases e2 : loopM f n j1 st1 with
        | bad => rw [e2] at h; cases h
        | ok ts j2 st2 =>
          rw [e2] at h
          cases h
          obtain ⟨w1, l1, k1⟩ := hf _ _ _ _ _ e1
          obtain ⟨w2, l2, k2⟩ := loopM_ok hf n _ _ _ _ _ e2
          exact ⟨⟨w1, w2⟩, by show max s.lv (lvL ts) ≤ lvl; omega, by omega⟩
theorem headM_ok {c : CuI} {l lvl : Nat} {g : Nat → Nat × Nat → BkR} (hg : 0 < lvl → GoodB c l g ∧ l + 1 ≤ lvl) {i j : Nat} {st st' : Nat × Nat} {s : St} (h : headM c lvl g i st = some (.ok s j st')) : s.Wf c.vars c.ops ∧ s.lv ≤ lvl ∧ i < j := by
  unfold headM at h
  cases e1 : c.ws[i]? with
  | none => rw [e1] at h; cases h
  | some x =>
    rw [e1] at h
    replace h : (if x ∈ opensB c lvl st then some (stmtM c g x (i + 1) st) else none) = some (.ok s j st') := h
    by_cases m : x ∈ opensB c lvl st
    · rw [if_pos m] at h
      obtain ⟨w, d, k⟩ := stmtM_ok hg m (Option.some.inj h)
      exact ⟨w, d, by omega⟩
    · rw [if_neg m] at h
      cases h
theorem blockM_ok {c : CuI} : ∀ l, GoodB c l (blockM c l)
  | 0 => fun i st ss j st' h => loopM_ok (fun _ _ _ _ _ => headM_ok (l := 0) (fun z => absurd z (Nat.lt_irrefl 0))) _ i st ss j st' h
  | l + 1 => fun i st ss j st' h => loopM_ok (fun _ _ _ _ _ => headM_ok (l := l) (fun _ => ⟨blockM_ok l, Nat.le_refl _⟩)) _ i st ss j st' h


theorem asc_ok' {x : Str} (h : Asc x) : PyData.strOk x = true := by
  unfold PyData.strOk
  rw [Array.all_eq_true_iff_forall_mem]
  intro c m
  have := h c (Array.mem_toList_iff.mpr m)
  simp
  omega
theorem here_some' {ws : List Str} {i : Nat} {x : Str} (h : ws[i]? = some x) : hereV ws i = .str x := by
  unfold hereV
  rw [h]
/-- a cursor whose words and names are plain -/
structure CuOk (c : CuI) : Prop where
  w : Wds c.ws
  l : c.ws.length < 90000
  v : ∀ x ∈ c.vars, PyData.strOk x = true
  o : ∀ x ∈ c.ops, PyData.strOk x = true
theorem block_shaped {c : CuI} (ok : CuOk c) {ss : List St} {l : Nat} (w : WfL c.vars c.ops ss) (d : lvL ss ≤ l) (l8 : l ≤ 8) : SeqAt.shaped (.tuple (datL ss)) = true := by
  unfold SeqAt.shaped
  have h1 : PyData.canLayAll0 (datL ss) = true := ldat_lay ok.v ok.o ss w
  have h2 := ldat_depth ss w
  rw [Bool.and_eq_true]
  refine ⟨?_, decide_eq_true ?_⟩
  · unfold PyData.canLay0
    exact h1
  · unfold PyData.depth
    omega
def prevM' (c : CuI) (lvl : Nat) : Nat → Nat × Nat → BkR := prevM c lvl

/-! ### the words of blocks -/
def seatS (p : Int) : Str := seatL.getD p.toNat "both"
def numS (n : Int) : Str := Str.ofString (toString n)
mutual
def St.words : St → List Str
  | .set x e => "set" :: x :: e.words
  | .ite e t f => "if" :: (e.words ++ (blockW t ++ ((if f = [] then [] else (("else" : Str) :: blockW f)) ++ (["end"] : List Str))))
  | .whn o t f => "when" :: o :: (blockW t ++ ((if f = [] then [] else (("else" : Str) :: blockW f)) ++ (["end"] : List Str)))
  | .draw x n => ["draw", x, numS n]
  | .move p x n _ => [seatS p, x, numS n]
  | .show a e => "show" :: seatS a :: e.words
  | .pay s e => s :: e.words
def blockW : List St → List Str
  | [] => []
  | s :: r => s.words ++ blockW r
end
theorem blockW_app : ∀ (a b : List St), blockW (a ++ b) = blockW a ++ blockW b
  | [], b => rfl
  | s :: r, b => by
    show s.words ++ blockW (r ++ b) = (s.words ++ blockW r) ++ blockW b
    rw [blockW_app r b, List.append_assoc]
mutual
/-- numbers as they are drawn -/
def St.Nb : St → Prop
  | .ite _ t f => NbL t ∧ NbL f
  | .whn _ t f => NbL t ∧ NbL f
  | .draw _ n => 0 ≤ n ∧ n < 65536
  | .move p _ n _ => (0 ≤ p ∧ p < 3) ∧ 0 ≤ n ∧ n < 65536
  | .show a _ => 0 ≤ a ∧ a < 3
  | .set _ _ => True
  | .pay _ _ => True
def NbL : List St → Prop
  | [] => True
  | s :: r => s.Nb ∧ NbL r
end
theorem nbL_get : ∀ {a : List St} {i : Nat} {s : St}, NbL a → a[i]? = some s → s.Nb
  | [], _, _, _, h => by simp at h
  | _ :: _, 0, _, h, e => by cases e; exact h.1
  | _ :: _, i + 1, _, h, e => nbL_get (i := i) h.2 (by rw [List.getElem?_cons_succ] at e; exact e)
theorem wd_e {ns ps : List Str} {e : Ex} (d : e.deep ≤ 13) : e.words.length ≤ 16382 := by
  have := words_le d
  omega
mutual
theorem words_sz {ns ps : List Str} : ∀ s : St, s.Wf ns ps → s.words.length ≤ 16400 * s.sz
  | .set x e, h => by
    have := wd_e (ns := ns) (ps := ps) h.2.2
    show e.words.length + 1 + 1 ≤ 16400 * 1
    omega
  | .ite e t f, h => by
    have h0 := wd_e (ns := ns) (ps := ps) h.1.2
    have h1 := blockW_sz t h.2.1
    have h2 := blockW_sz f h.2.2
    show (e.words ++ (blockW t ++ ((if f = [] then [] else (("else" : Str) :: blockW f)) ++ (["end"] : List Str)))).length + 1 ≤ 16400 * (1 + szL t + szL f)
    have h3 : (if f = [] then [] else (("else" : Str) :: blockW f)).length ≤ (blockW f).length + 1 := by
      split
      · exact Nat.zero_le _
      · exact Nat.le_refl _
    rw [List.length_append, List.length_append, List.length_append]
    show e.words.length + ((blockW t).length + (_ + 1)) + 1 ≤ _
    omega
  | .whn o t f, h => by
    have h1 := blockW_sz t h.2.1
    have h2 := blockW_sz f h.2.2
    show (blockW t ++ ((if f = [] then [] else (("else" : Str) :: blockW f)) ++ (["end"] : List Str))).length + 1 + 1 ≤ 16400 * (1 + szL t + szL f)
    have h3 : (if f = [] then [] else (("else" : Str) :: blockW f)).length ≤ (blockW f).length + 1 := by
      split
      · exact Nat.zero_le _
      · exact Nat.le_refl _
    rw [List.length_append, List.length_append]
    show (blockW t).length + (_ + 1) + 1 + 1 ≤ _
    omega
  | .draw x n, h => by show 3 ≤ 16400 * 1; omega
  | .move p x n k, h => by show 3 ≤ 16400 * 1; omega
  | .show a e, h => by
    have := wd_e (ns := ns) (ps := ps) h.2
    show e.words.length + 1 + 1 ≤ 16400 * 1
    omega
  | .pay s e, h => by
    have := wd_e (ns := ns) (ps := ps) h.2.2
    show e.words.length + 1 ≤ 16400 * 1
    omega
theorem blockW_sz {ns ps : List Str} : ∀ ss : List St, WfL ns ps ss → (blockW ss).length ≤ 16400 * szL ss
  | [], _ => Nat.zero_le _
  | s :: r, h => by
    have h1 := words_sz s h.1
    have h2 := blockW_sz r h.2
    show (s.words ++ blockW r).length ≤ 16400 * (s.sz + szL r)
    rw [List.length_append]
    omega
end
structure NmOk (ns ps : List Str) : Prop where
  n : ∀ x ∈ ns, PyData.strOk x = true
  p : ∀ x ∈ ps, PyData.strOk x = true
theorem shaped_of {ns ps : List Str} (ok : NmOk ns ps) {ss : List St} (w : WfL ns ps ss) (d : lvL ss ≤ 9) : SeqAt.shaped (.tuple (datL ss)) = true := by
  unfold SeqAt.shaped
  have h1 : PyData.canLayAll0 (datL ss) = true := ldat_lay ok.n ok.p ss w
  have h2 := ldat_depth ss w
  rw [Bool.and_eq_true]
  refine ⟨?_, decide_eq_true ?_⟩
  · unfold PyData.canLay0
    exact h1
  · unfold PyData.depth
    omega
def branchW (t f : List St) : List Str := blockW t ++ ((if f = [] then [] else (("else" : Str) :: blockW f)) ++ (["end"] : List Str))
theorem seat_at {p : Int} (h0 : 0 ≤ p) (h3 : p < 3) : atI (seatL.map V.str) p = some (.str (seatS p)) := by
  obtain ⟨n, rfl⟩ := Int.eq_ofNat_of_zero_le h0
  match n, h3 with
  | 0, _ => exact atI_nat (j := 0) rfl
  | 1, _ => exact atI_nat (j := 1) rfl
  | 2, _ => exact atI_nat (j := 2) rfl
  | n + 3, h => omega

/-! ### options, variables and rounds -/
inductive HdR (α : Type) where
  | ok (xs : List α) (j : Nat)
  | bad (j : Nat)
def HdK {α : Type} (K : PySem.W.Frag) (C B : Addr) (V_ : Hp → V → α → Prop) (H : Hp) (c : CuI) (r : HdR α) (Q : VK) (E : XK) : Prop := match r with
  | .ok xs j => ∀ p vs H', But c.a H H' → H p = none → H' p = some (.lst vs) → Paired (V_ H') vs xs → CuX K C H' c j → Q (.ref p) H'
  | .bad j => ∀ d H', But c.a H H' → H' d = some (.xd [("at", .int (j : Nat))]) → E (.ref B) (some d) H'
open Classical in
noncomputable def freshM (ws ns : List Str) (i : Nat) : Option Str := match ws[i]? with
  | some x => if NameP x ∧ x ∉ ns then some x else none
  | none => none
open Classical in
theorem freshM_some {ws ns : List Str} {i : Nat} {x : Str} (e : ws[i]? = some x) (n : NameP x) (m : x ∉ ns) : freshM ws ns i = some x := by
  unfold freshM
  rw [e]
  show (if NameP x ∧ x ∉ ns then some x else none) = _
  rw [if_pos ⟨n, m⟩]
open Classical in
theorem freshM_none {ws ns : List Str} {i : Nat} (h : ∀ x v, ws[i]? = some x → ¬ Fit (.fresh ns) x v) : freshM ws ns i = none := by
  unfold freshM
  cases e : ws[i]? with
  | none => rfl
  | some x =>
    show (if NameP x ∧ x ∉ ns then some x else none) = _
    rw [if_neg fun m => h x (.str x) e ⟨m.1, m.2, rfl⟩]
noncomputable def optsM (ws : List Str) : Nat → List (Str × Bool) → Nat → HdR (Str × Bool)
  | 0, acc, i => .ok acc i
  | f + 1, acc, i => if ws[i]? = some ("option" : Str) ∧ acc.length < 6 then (match freshM ws (acc.map (·.1)) (i + 1) with
      | none => .bad (i + 1)
      | some x => match nameM ws ["on", "off"] (i + 2) with
        | none => .bad (i + 2)
        | some y => optsM ws f (acc ++ [(x, decide (y = "on"))]) (i + 3))
    else .ok acc i
def OptV (H : Hp) (v : V) (q : Str × Bool) : Prop := ∃ a, v = .ref a ∧ H a = some (.tup [.str q.1, .bl q.2])
theorem OptV.keep {H H' : Hp} (k : KeepT H H') {v : V} {q : Str × Bool} (h : OptV H v q) : OptV H' v q := by
  obtain ⟨a, e, t⟩ := h
  exact ⟨a, e, k _ _ t⟩
noncomputable def varsM (ws : List Str) : Nat → List (Str × Int) → Nat → HdR (Str × Int)
  | 0, acc, i => .ok acc i
  | f + 1, acc, i => if ws[i]? = some ("var" : Str) ∧ acc.length < 12 then (match freshM ws (acc.map (·.1)) (i + 1) with
      | none => .bad (i + 1)
      | some x => match numM ws 1 65535 (i + 2) with
        | none => .bad (i + 2)
        | some y => varsM ws f (acc ++ [(x, ((y : Nat) : Int))]) (i + 3))
    else .ok acc i
def VarV (H : Hp) (v : V) (q : Str × Int) : Prop := ∃ a, v = .ref a ∧ H a = some (.tup [.str q.1, .int q.2])
theorem VarV.keep {H H' : Hp} (k : KeepT H H') {v : V} {q : Str × Int} (h : VarV H v q) : VarV H' v q := by
  obtain ⟨a, e, t⟩ := h
  exact ⟨a, e, k _ _ t⟩
/-- a tuple that begins with a name -/
def NmV (H : Hp) (v : V) (x : Str) : Prop := ∃ a r, v = .ref a ∧ H a = some (.tup (.str x :: r))
theorem OptV.nm {H : Hp} {vs : List V} {xs : List (Str × Bool)} (h : Paired (OptV H) vs xs) : Paired (NmV H) vs (xs.map (·.1)) := by
  induction h with
  | nil => exact .nil
  | cons r _ ih =>
    obtain ⟨a, e, t⟩ := r
    exact .cons ⟨a, _, e, t⟩ ih
theorem VarV.nm {H : Hp} {vs : List V} {xs : List (Str × Int)} (h : Paired (VarV H) vs xs) : Paired (NmV H) vs (xs.map (·.1)) := by
  induction h with
  | nil => exact .nil
  | cons r _ ih =>
    obtain ⟨a, e, t⟩ := r
    exact .cons ⟨a, _, e, t⟩ ih
theorem paired_snocC {α β : Type} {R : α → β → Prop} {xs : List α} {ys : List β} {x : α} {y : β} (h : Paired R xs ys) (r : R x y) : Paired R (xs ++ [x]) (ys ++ [y]) := paired_app h (.cons r .nil)

noncomputable def rndsM (c : CuI) : Nat → List (Str × List St) → Nat → Nat × Nat → HdR (Str × List St)
  | 0, acc, i, _ => .ok acc i
  | f + 1, acc, i, st => if c.ws[i]? = some ("round" : Str) ∧ acc.length < 8 then (match freshM c.ws (acc.map (·.1)) (i + 1) with
      | none => .bad (i + 1)
      | some x => match blockM c 8 (i + 2) st with
        | .bad j => .bad j
        | .ok ss j st' => if c.ws[j]? = some ("end" : Str) then rndsM c f (acc ++ [(x, ss)]) (j + 1) st' else .bad j)
    else .ok acc i
def RndV (K : PySem.W.Frag) (H : Hp) (v : V) (q : Str × List St) : Prop := ∃ a b ws, v = .ref a ∧ H a = some (.tup [.str q.1, .ref b]) ∧ H b = some (.tup ws) ∧ Bv K H ws q.2
theorem RndV.keep {K : PySem.W.Frag} {H H' : Hp} (k : KeepT H H') {v : V} {q : Str × List St} (h : RndV K H v q) : RndV K H' v q := by
  obtain ⟨a, b, ws, e, t, u, w⟩ := h
  exact ⟨a, b, ws, e, k _ _ t, k _ _ u, w.keep k⟩
theorem RndV.nm {K : PySem.W.Frag} {H : Hp} {vs : List V} {xs : List (Str × List St)} (h : Paired (RndV K H) vs xs) : Paired (NmV H) vs (xs.map (·.1)) := by
  induction h with
  | nil => exact .nil
  | cons r _ ih =>
    obtain ⟨a, b, ws, e, t, _⟩ := r
    exact .cons ⟨a, _, e, t⟩ ih

/-! ### words of a text, as in k10 -/
def joinC : List (List Nat) → List Nat
  | [] => []
  | [a] => a
  | a :: b :: r => a ++ 32 :: joinC (b :: r)
theorem tw_free : ∀ (a r : List Nat), 32 ∉ a → (a ++ 32 :: r).takeWhile (fun c => c != 32) = a ∧ (a ++ 32 :: r).dropWhile (fun c => c != 32) = 32 :: r
  | [], r, _ => by simp
  | x :: a, r, h => by
    have hx : x ≠ 32 := fun e => h (by rw [e]; exact List.mem_cons_self)
    have ih := tw_free a r fun m => h (List.mem_cons_of_mem x m)
    have bx : (x != 32) = true := by simpa using hx
    rw [List.cons_append, List.takeWhile_cons, List.dropWhile_cons, if_pos bx, if_pos bx, ih.1, ih.2]
    exact ⟨rfl, rfl⟩
theorem tw_all : ∀ (a : List Nat), 32 ∉ a → a.takeWhile (fun c => c != 32) = a ∧ a.dropWhile (fun c => c != 32) = []
  | [], _ => by simp
  | x :: a, h => by
    have hx : x ≠ 32 := fun e => h (by rw [e]; exact List.mem_cons_self)
    have ih := tw_all a fun m => h (List.mem_cons_of_mem x m)
    have bx : (x != 32) = true := by simpa using hx
    rw [List.takeWhile_cons, List.dropWhile_cons, if_pos bx, if_pos bx, ih.1, ih.2]
    exact ⟨rfl, rfl⟩
theorem join_uniq : ∀ (ps qs : List (List Nat)), ps ≠ [] → qs ≠ [] → (∀ p ∈ ps, 32 ∉ p) → (∀ p ∈ qs, 32 ∉ p) → joinC ps = joinC qs → ps = qs
  | [], _, h, _, _, _, _ => absurd rfl h
  | _, [], _, h, _, _, _ => absurd rfl h
  | [a], [b], _, _, _, _, e => by
    have e' : a = b := e
    rw [e']
  | [a], b :: c :: r, _, _, ha, hb, e => by
    have e' : a = b ++ 32 :: joinC (c :: r) := e
    have h1 := tw_all a (ha a List.mem_cons_self)
    have h2 := tw_free b (joinC (c :: r)) (hb b List.mem_cons_self)
    rw [← e', h1.2] at h2
    cases h2.2
  | a :: c :: r, [b], _, _, ha, hb, e => by
    have e' : a ++ 32 :: joinC (c :: r) = b := e
    have h1 := tw_all b (hb b List.mem_cons_self)
    have h2 := tw_free a (joinC (c :: r)) (ha a List.mem_cons_self)
    rw [e', h1.2] at h2
    cases h2.2
  | a :: c :: r, b :: d :: u, _, _, ha, hb, e => by
    have e' : a ++ 32 :: joinC (c :: r) = b ++ 32 :: joinC (d :: u) := e
    have h1 := tw_free a (joinC (c :: r)) (ha a List.mem_cons_self)
    have h2 := tw_free b (joinC (d :: u)) (hb b List.mem_cons_self)
    rw [e'] at h1
    have eab : a = b := h1.1.symm.trans h2.1
    have et : joinC (c :: r) = joinC (d :: u) := by
      have q := h1.2.symm.trans h2.2
      injection q
    have ih := join_uniq (c :: r) (d :: u) (by simp) (by simp) (fun p m => ha p (List.mem_cons_of_mem _ m)) (fun p m => hb p (List.mem_cons_of_mem _ m)) et
    rw [eab, ih]
/-- the words ws of a text x -/
def Parts (ws : List Str) (x : Str) : Prop := (x.length = 0 ∧ ws = []) ∨ (0 < x.length ∧ ws ≠ [] ∧ (∀ w ∈ ws, 32 ∉ w.cps.toList) ∧ joinC (ws.map (·.cps.toList)) = x.cps.toList)
theorem cps_inj : ∀ {ws us : List Str}, ws.map (·.cps.toList) = us.map (·.cps.toList) → ws = us
  | [], [], _ => rfl
  | [], _ :: _, h => by simp at h
  | _ :: _, [], h => by simp at h
  | w :: ws, u :: us, h => by
    rw [List.map_cons, List.map_cons] at h
    injection h with h1 h2
    rw [ext_toList h1, cps_inj h2]
theorem parts_uniq {ws us : List Str} {x : Str} (h : Parts ws x) (g : Parts us x) : ws = us := by
  rcases h with ⟨h0, rfl⟩ | ⟨h0, h1, h2, h3⟩
  · rcases g with ⟨_, rfl⟩ | ⟨g0, _⟩
    · rfl
    · omega
  · rcases g with ⟨g0, _⟩ | ⟨g0, g1, g2, g3⟩
    · omega
    · refine cps_inj (join_uniq _ _ (by simpa using h1) (by simpa using g1) (fun p m => ?_) (fun p m => ?_) (h3.trans g3.symm))
      · obtain ⟨w, hw, rfl⟩ := List.mem_map.mp m
        exact h2 w hw
      · obtain ⟨w, hw, rfl⟩ := List.mem_map.mp m
        exact g2 w hw
theorem join_cps : ∀ ws : List Str, (Str.join ⟨#[32]⟩ ws).cps.toList = joinC (ws.map (·.cps.toList))
  | [] => rfl
  | [a] => rfl
  | a :: b :: r => by
    have ih := join_cps (b :: r)
    show ((a ++ (⟨#[32]⟩ : Str)) ++ Str.join ⟨#[32]⟩ (b :: r)).cps.toList = a.cps.toList ++ 32 :: joinC ((b :: r).map (·.cps.toList))
    rw [← ih]
    show ((a.cps ++ #[32]) ++ (Str.join ⟨#[32]⟩ (b :: r)).cps).toList = _
    simp
theorem parts_split {x : Str} (h : 0 < x.length) : Parts (Txt.split x ⟨#[32]⟩) x := by
  refine .inr ⟨h, fun z => ?_, fun w m => StrLaws.split_free x 32 w m, ?_⟩
  · have := split_pos x ⟨#[32]⟩
    rw [z] at this
    simp at this
  · rw [← join_cps, StrLaws.join_split]
theorem parts_join {ws : List Str} {x : Str} (h : Parts ws x) : Txt.join ⟨#[32]⟩ ws = x := by
  show Builtin.Str.glued _ _ = x
  rw [StrLaws.glued_eq_join]
  rcases h with ⟨h0, rfl⟩ | ⟨_, _, _, h3⟩
  · refine ext_toList ?_
    have : x.cps.toList = [] := List.eq_nil_of_length_eq_zero h0
    rw [this]
    rfl
  · exact ext_toList ((join_cps ws).trans h3)
theorem joinC_len : ∀ ps : List (List Nat), (ps.map List.length).sum + ps.length ≤ (joinC ps).length + 1
  | [] => by simp
  | [a] => by simp [joinC]
  | a :: b :: r => by
    have ih := joinC_len (b :: r)
    show ((a :: b :: r).map List.length).sum + (a :: b :: r).length ≤ (a ++ 32 :: joinC (b :: r)).length + 1
    rw [List.map_cons, List.sum_cons, List.length_cons, List.length_append]
    show a.length + _ + (_ + 1) ≤ a.length + ((joinC (b :: r)).length + 1) + 1
    omega
theorem parts_len {ws : List Str} {x : Str} (h : Parts ws x) : (ws.map (·.length)).sum + ws.length ≤ x.length + 1 := by
  rcases h with ⟨_, rfl⟩ | ⟨_, _, _, h3⟩
  · simp
  · have q := joinC_len (ws.map (·.cps.toList))
    rw [h3, List.length_map, List.map_map] at q
    exact q
theorem joinC_mem : ∀ {ps : List (List Nat)} {p : List Nat} {c : Nat}, p ∈ ps → c ∈ p → c ∈ joinC ps
  | [], p, _, h, _ => by cases h
  | [a], p, _, h, m => by
    rw [List.mem_singleton.mp h] at m
    exact m
  | a :: b :: r, p, c, h, m => by
    show c ∈ a ++ 32 :: joinC (b :: r)
    rcases List.mem_cons.mp h with rfl | h
    · exact List.mem_append_left _ m
    · exact List.mem_append_right _ (List.mem_cons_of_mem _ (joinC_mem h m))

def rTupOf (K : PySem.W.Frag) : List V → Hp → VK → Prop := fun xs H Q => ∃ p ys, xs = [V.ref p] ∧ ((SqL K H p ys ∧ ∀ l, H l = none → Q (.ref l) (upd H l (.tup ys))) ∨ (SqT K H p ys ∧ Q (.ref p) H))
/-- a game at g -/
def GameS (K : PySem.W.Frag) (C : Addr) (H : Hp) (g : Addr) (os : List (Str × Bool)) (us : List (Str × Int)) (rs : List (Str × List St)) : Prop := ∃ dx o u r ov uv rv, H g = some (.ins C dx [("options", .ref o), ("variables", .ref u), ("rounds", .ref r)]) ∧ H o = some (.tup ov) ∧ Paired (OptV H) ov os ∧ H u = some (.tup uv) ∧ Paired (VarV H) uv us ∧ H r = some (.tup rv) ∧ Paired (RndV K H) rv rs
theorem paired_take_snoc {α β : Type} {R : α → β → Prop} {xs : List α} {ys : List β} {i : Nat} {x : α} {y : β} (h : Paired R xs (ys.take i)) (e : ys[i]? = some y) (r : R x y) : Paired R (xs ++ [x]) (ys.take (i + 1)) := by
  rw [List.take_add_one, e]
  exact paired_snocC h r
theorem keepT_ins {H H' : Hp} {x C dx : Addr} {fs : List (Str × V)} (hx : H x = some (.ins C dx fs)) (b : But x H H') : KeepT H H' := fun c ys e => b c _ (fun z => by rw [z, hx] at e; cases e) e

open Classical in
theorem freshM_of {ws ns : List Str} {i : Nat} {x : Str} (h : freshM ws ns i = some x) : x ∈ ws ∧ x ∉ ns := by
  unfold freshM at h
  cases e : ws[i]? with
  | none => rw [e] at h; cases h
  | some y =>
    rw [e] at h
    replace h : (if NameP y ∧ y ∉ ns then some y else none) = some x := h
    by_cases p : NameP y ∧ y ∉ ns
    · rw [if_pos p] at h
      cases h
      exact ⟨List.mem_of_getElem? e, p.2⟩
    · rw [if_neg p] at h
      cases h
theorem optsM_names {ws : List Str} : ∀ (f : Nat) (acc : List (Str × Bool)) (i : Nat) (xs : List (Str × Bool)) (j : Nat), optsM ws f acc i = .ok xs j → (∀ x ∈ acc.map (·.1), x ∈ ws) → acc.length ≤ 6 → (∀ x ∈ xs.map (·.1), x ∈ ws) ∧ xs.length ≤ 6
  | 0, acc, i, xs, j, h, g, l => by cases h; exact ⟨g, l⟩
  | f + 1, acc, i, xs, j, h, g, l => by
    unfold optsM at h
    split at h
    · rename_i c
      cases e1 : freshM ws (acc.map (·.1)) (i + 1) with
      | none => rw [e1] at h; cases h
      | some x =>
        rw [e1] at h
        replace h : (match nameM ws ["on", "off"] (i + 2) with
          | none => HdR.bad (i + 2)
          | some y => optsM ws f (acc ++ [(x, decide (y = "on"))]) (i + 3)) = .ok xs j := h
        cases e2 : nameM ws ["on", "off"] (i + 2) with
        | none => rw [e2] at h; cases h
        | some y =>
          rw [e2] at h
          refine optsM_names f _ _ xs j h (fun z mz => ?_) (by rw [List.length_append]; show acc.length + 1 ≤ 6; omega)
          rw [List.map_append] at mz
          rcases List.mem_append.mp mz with mz | mz
          · exact g z mz
          · rw [List.mem_singleton.mp mz]
            exact (freshM_of e1).1
    · cases h
      exact ⟨g, l⟩
theorem varsM_names {ws : List Str} : ∀ (f : Nat) (acc : List (Str × Int)) (i : Nat) (xs : List (Str × Int)) (j : Nat), varsM ws f acc i = .ok xs j → (∀ x ∈ acc.map (·.1), x ∈ ws) → acc.length ≤ 12 → (∀ x ∈ xs.map (·.1), x ∈ ws) ∧ xs.length ≤ 12
  | 0, acc, i, xs, j, h, g, l => by cases h; exact ⟨g, l⟩
  | f + 1, acc, i, xs, j, h, g, l => by
    unfold varsM at h
    split at h
    · rename_i c
      cases e1 : freshM ws (acc.map (·.1)) (i + 1) with
      | none => rw [e1] at h; cases h
      | some x =>
        rw [e1] at h
        replace h : (match numM ws 1 65535 (i + 2) with
          | none => HdR.bad (i + 2)
          | some y => varsM ws f (acc ++ [(x, ((y : Nat) : Int))]) (i + 3)) = .ok xs j := h
        cases e2 : numM ws 1 65535 (i + 2) with
        | none => rw [e2] at h; cases h
        | some y =>
          rw [e2] at h
          refine varsM_names f _ _ xs j h (fun z mz => ?_) (by rw [List.length_append]; show acc.length + 1 ≤ 12; omega)
          rw [List.map_append] at mz
          rcases List.mem_append.mp mz with mz | mz
          · exact g z mz
          · rw [List.mem_singleton.mp mz]
            exact (freshM_of e1).1
    · cases h
      exact ⟨g, l⟩
theorem rndsM_len {c : CuI} : ∀ (f : Nat) (acc : List (Str × List St)) (i : Nat) (st : Nat × Nat) (xs : List (Str × List St)) (j : Nat), rndsM c f acc i st = .ok xs j → acc.length ≤ 8 → xs.length ≤ 8
  | 0, acc, i, st, xs, j, h, l => by cases h; exact l
  | f + 1, acc, i, st, xs, j, h, l => by
    unfold rndsM at h
    split at h
    · rename_i cc
      cases e1 : freshM c.ws (acc.map (·.1)) (i + 1) with
      | none => rw [e1] at h; cases h
      | some x =>
        rw [e1] at h
        replace h : (match blockM c 8 (i + 2) st with
          | .bad j => HdR.bad j
          | .ok ss j st' => if c.ws[j]? = some ("end" : Str) then rndsM c f (acc ++ [(x, ss)]) (j + 1) st' else .bad j) = .ok xs j := h
        cases e2 : blockM c 8 (i + 2) st with
        | bad => rw [e2] at h; cases h
        | ok ss j2 st2 =>
          rw [e2] at h
          replace h : (if c.ws[j2]? = some ("end" : Str) then rndsM c f (acc ++ [(x, ss)]) (j2 + 1) st2 else HdR.bad j2) = .ok xs j := h
          split at h
          · exact rndsM_len f _ _ _ xs j h (by rw [List.length_append]; show acc.length + 1 ≤ 8; omega)
          · cases h
    · cases h
      exact l
/-- the cursor of the rounds -/
def Cur (c : CuI) (ws : List Str) (os : List (Str × Bool)) (us : List (Str × Int)) : Prop := c.ws = ws ∧ c.ops = os.map (·.1) ∧ c.vars = us.map (·.1) ∧ c.se = false
def GmK (K : PySem.W.Frag) (C B : Addr) (H : Hp) (ws : List Str) (Q : VK) (E : XK) : Prop := match optsM ws 7 [] 0 with
  | .bad j => ∀ d H', Same H H' → H' d = some (.xd [("at", .int (j : Nat))]) → E (.ref B) (some d) H'
  | .ok os j => match varsM ws 13 [] j with
    | .bad j => ∀ d H', Same H H' → H' d = some (.xd [("at", .int (j : Nat))]) → E (.ref B) (some d) H'
    | .ok us j => ∀ c, Cur c ws os us → match rndsM c 9 [] j (0, 0) with
      | .bad j => ∀ d H', Same H H' → H' d = some (.xd [("at", .int (j : Nat))]) → E (.ref B) (some d) H'
      | .ok rs j => (ws[j]? = none → ∀ g H', Same H H' → H g = none → GameS K C H' g os us rs → Q (.ref g) H') ∧
        (ws[j]? ≠ none → ∀ d H', Same H H' → H' d = some (.xd [("at", .int (j : Nat))]) → E (.ref B) (some d) H')

/-! ### the words of data of a game give the data back -/
theorem rows_len2 (e : Ex) (l : Nat) : (e.rows l).length = e.words.length := by rw [← rows_words e l, List.length_map]
theorem rows_lev : ∀ (e : Ex) (l : Nat) (q : Str × Nat), q ∈ e.rows l → q.2 + 1 ≤ l + e.deep
  | .num n, l, q, m => by
    rw [List.mem_singleton.mp m]
    exact Nat.le_refl _
  | .var x, l, q, m => by
    rw [List.mem_singleton.mp m]
    exact Nat.le_refl _
  | .long, l, q, m => by
    rw [List.mem_singleton.mp m]
    exact Nat.le_refl _
  | .view e, l, q, m => by
    have d := deep_posR e
    show q.2 + 1 ≤ l + (e.deep + 1)
    rcases List.mem_cons.mp m with rfl | m
    · show l + 1 + 1 ≤ _
      omega
    · have := rows_lev e (l + 1) q m
      omega
  | .pick x a b, l, q, m => by
    have d := deep_posR a
    show q.2 + 1 ≤ l + (max a.deep b.deep + 1)
    rcases List.mem_cons.mp m with rfl | m
    · show l + 1 + 1 ≤ _
      omega
    rcases List.mem_cons.mp m with rfl | m
    · show l + 1 ≤ _
      omega
    rcases List.mem_append.mp m with m | m
    · have := rows_lev a (l + 1) q m
      omega
    · have := rows_lev b (l + 1) q m
      omega
  | .op s a b, l, q, m => by
    have d := deep_posR a
    show q.2 + 1 ≤ l + (max a.deep b.deep + 1)
    rcases List.mem_cons.mp m with rfl | m
    · show l + 1 + 1 ≤ _
      omega
    rcases List.mem_append.mp m with m | m
    · have := rows_lev a (l + 1) q m
      omega
    · have := rows_lev b (l + 1) q m
      omega
theorem fbad_all {b : Nat} : ∀ (xs : List (Str × Nat)), (∀ q ∈ xs, q.2 ≤ b) → fbad b xs = none
  | [], _ => rfl
  | q :: r, h => by
    show (if b < q.2 then some 0 else (fbad b r).map (· + 1)) = none
    have := h q List.mem_cons_self
    rw [if_neg (by omega), fbad_all r fun z m => h z (List.mem_cons_of_mem _ m)]
    rfl
theorem read_e {c : CuI} (hv : ∀ x ∈ c.vars, Nm x) {e : Ex} {room i : Nat} (w : e.Wf c.vars c.ops) (s : e.Se c.se) (d : e.deep ≤ room) (sub : SubAt c.ws i e.words) : readM c room i = .ok e (i + e.words.length) := by
  have dp := deep_posR e
  have := read_rows hv e room 1 i room w s (by omega) (by omega) (by rw [rows_words]; exact sub)
  rw [this, fbad_all _ fun q m => by have := rows_lev e 1 q m; omega]
  show RdR.ok e _ = _
  rw [rows_len2]
/-- an expression of a game -/
def EGd (vs os : List Str) (e : Ex) : Prop := e.Wf vs os ∧ e.deep ≤ 12 ∧ e.Se false
mutual
/-- a statement as a game has it: from so many draws and moves to so many -/
def St.G (vs os : List Str) : St → Nat × Nat → Nat × Nat → Prop
  | .set x e, a, b => x ∈ vs ∧ EGd vs os e ∧ b = a
  | .ite e t f, a, b => EGd vs os e ∧ ∃ m, GL vs os t a m ∧ GL vs os f m b
  | .whn o t f, a, b => o ∈ os ∧ ∃ m, GL vs os t a m ∧ GL vs os f m b
  | .draw x n, a, b => x ∈ vs ∧ (1 ≤ n ∧ n ≤ 64) ∧ a.1 + a.2 < 24 ∧ b = (a.1 + 1, a.2)
  | .move p x n k, a, b => (p = 1 ∨ p = 2) ∧ x ∈ vs ∧ (1 ≤ n ∧ n ≤ 8) ∧ k = ((a.2 : Nat) : Int) ∧ a.1 + a.2 < 24 ∧ b = (a.1, a.2 + 1)
  | .show p e, a, b => (0 ≤ p ∧ p < 3) ∧ EGd vs os e ∧ b = a
  | .pay s e, a, b => (s = "pay" ∨ s = "take") ∧ EGd vs os e ∧ b = a
def GL (vs os : List Str) : List St → Nat × Nat → Nat × Nat → Prop
  | [], a, b => b = a
  | s :: r, a, b => ∃ m, s.G vs os a m ∧ GL vs os r m b
end
def wd0 : St → Str
  | .set _ _ => "set" | .ite _ _ _ => "if" | .whn _ _ _ => "when" | .draw _ _ => "draw" | .move p _ _ _ => seatS p | .show _ _ => "show" | .pay s _ => s
theorem words_hd (s : St) : ∃ r, s.words = wd0 s :: r := by
  cases s <;> exact ⟨_, rfl⟩
theorem SubAt.len {ws xs : List Str} {i : Nat} (h : SubAt ws i xs) (n : xs ≠ []) : i + xs.length ≤ ws.length := by
  have l : 0 < xs.length := List.length_pos_iff.mpr n
  have e : xs[xs.length - 1]? = some xs[xs.length - 1] := List.getElem?_eq_getElem (by omega)
  have := (List.getElem?_eq_some_iff.mp (h _ _ e)).1
  omega
/-- what ends a block -/
def Stop (ws : List Str) (j : Nat) : Prop := ∀ x, ws[j]? = some x → x = "end" ∨ x = "else"
def RB (c : CuI) (l : Nat) (g : Nat → Nat × Nat → BkR) : Prop := ∀ (ss : List St) (i : Nat) (a b : Nat × Nat), GL c.vars c.ops ss a b → lvL ss ≤ l → SubAt c.ws i (blockW ss) → Stop c.ws (i + (blockW ss).length) → g i a = .ok ss (i + (blockW ss).length) b
theorem endM_is {c : CuI} {s : St} {j : Nat} {st : Nat × Nat} (h : c.ws[j]? = some ("end" : Str)) : endM c s j st = .ok s (j + 1) st := by
  unfold endM
  rw [if_pos h]
theorem branch_back {c : CuI} {l : Nat} {g : Nat → Nat × Nat → BkR} (hg : RB c l g) (mk : List St → List St → St) {t f : List St} {i : Nat} {a m b : Nat × Nat} (gt : GL c.vars c.ops t a m) (gf : GL c.vars c.ops f m b) (lt : lvL t ≤ l) (lf : lvL f ≤ l) (sub : SubAt c.ws i (branchW t f)) :
    branchM c g mk i a = .ok (mk t f) (i + (branchW t f).length) b := by
  have s1 := sub.left
  have s2 := sub.right
  unfold branchM
  cases f with
  | nil =>
    have e : c.ws[i + (blockW t).length]? = some ("end" : Str) := s2.head
    rw [hg t i a m gt lt s1 fun x h => by rw [e] at h; exact .inl (Option.some.inj h).symm]
    show (if c.ws[i + (blockW t).length]? = some ("else" : Str) then _ else endM c (mk t []) (i + (blockW t).length) m) = _
    have mb : b = m := gf
    rw [if_neg (by rw [e]; exact fun z => absurd (Option.some.inj z) (by decide +kernel)), endM_is e, mb]
    show StR.ok _ _ _ = StR.ok _ (i + (blockW t ++ (([] : List Str) ++ (["end"] : List Str))).length) _
    rw [List.length_append]
    rfl
  | cons s r =>
    have s2' : SubAt c.ws (i + (blockW t).length) (("else" : Str) :: (blockW (s :: r) ++ (["end"] : List Str))) := s2
    have e : c.ws[i + (blockW t).length]? = some ("else" : Str) := s2'.head
    have s3 := s2'.tail.left
    have s4 := s2'.tail.right
    have e4 : c.ws[i + (blockW t).length + 1 + (blockW (s :: r)).length]? = some ("end" : Str) := s4.head
    rw [hg t i a m gt lt s1 fun x h => by rw [e] at h; exact .inr (Option.some.inj h).symm]
    show (if c.ws[i + (blockW t).length]? = some ("else" : Str) then (match g (i + (blockW t).length + 1) m with
      | .bad j' => StR.bad j'
      | .ok f j' st2 => if f = [] then .bad j' else endM c (mk t f) j' st2) else _) = _
    rw [if_pos e, hg (s :: r) _ m b gf lf s3 fun x h => by rw [e4] at h; exact .inl (Option.some.inj h).symm]
    show (if (s :: r) = [] then _ else endM c (mk t (s :: r)) _ b) = _
    rw [if_neg (fun z => by cases z), endM_is e4]
    show StR.ok _ _ _ = StR.ok _ (i + (blockW t ++ ((("else" : Str) :: blockW (s :: r)) ++ (["end"] : List Str))).length) _
    rw [List.length_append, List.length_append, List.length_cons]
    have : i + (blockW t).length + 1 + (blockW (s :: r)).length + 1 = i + ((blockW t).length + ((blockW (s :: r)).length + 1 + 1)) := by omega
    rw [this]
    rfl
theorem nameM_is {ws l : List Str} {i : Nat} {x : Str} (e : ws[i]? = some x) (m : x ∈ l) : nameM ws l i = some x := by
  unfold nameM
  rw [e]
  show (if x ∈ l then some x else none) = _
  rw [if_pos m]
theorem numM_is {ws : List Str} {lo hi i n : Nat} (e : ws[i]? = some (numS ((n : Nat) : Int))) (h : n ≤ 65535) (l : lo ≤ n ∧ n ≤ hi) : numM ws lo hi i = some n := numM_some e h (TL.tl_num n) l
theorem seat_facts : (∀ p : Int, (p = 1 ∨ p = 2) → seatN (seatS p) = p ∧ seatS p ≠ "draw" ∧ seatS p ∈ (["draw", "first", "second"] : List Str) ∧ seatS p ≠ "if" ∧ seatS p ≠ "when" ∧ seatS p ≠ "show" ∧ seatS p ≠ "set") := by
  rintro p (rfl | rfl) <;> decide +kernel
theorem seat_in {p : Int} (h : 0 ≤ p ∧ p < 3) : seatS p ∈ seatL ∧ seatN (seatS p) = p := by
  obtain ⟨n, rfl⟩ := Int.eq_ofNat_of_zero_le h.1
  match n, h.2 with
  | 0, _ => decide +kernel
  | 1, _ => decide +kernel
  | 2, _ => decide +kernel
  | n + 3, h => omega
theorem ops_in {c : CuI} {x : Str} (m : x ∈ c.ops) : (!c.ops.isEmpty) = true := by
  cases h : c.ops with
  | nil => rw [h] at m; cases m
  | cons _ _ => rfl
theorem vars_in {c : CuI} {x : Str} (m : x ∈ c.vars) : (!c.vars.isEmpty) = true := by
  cases h : c.vars with
  | nil => rw [h] at m; cases m
  | cons _ _ => rfl
theorem opB_base {c : CuI} {lvl : Nat} {st : Nat × Nat} {x : Str} (h : x ∈ (["show", "pay", "take"] : List Str)) : x ∈ opensB c lvl st := List.mem_append_left _ (List.mem_append_left _ h)
theorem opB_if {c : CuI} {lvl : Nat} {st : Nat × Nat} (h : 0 < lvl) : ("if" : Str) ∈ opensB c lvl st := by
  refine List.mem_append_left _ (List.mem_append_right _ ?_)
  rw [if_pos h]
  exact List.mem_append_left _ List.mem_cons_self
theorem opB_when {c : CuI} {lvl : Nat} {st : Nat × Nat} {o : Str} (h : 0 < lvl) (m : o ∈ c.ops) : ("when" : Str) ∈ opensB c lvl st := by
  refine List.mem_append_left _ (List.mem_append_right _ ?_)
  rw [if_pos h]
  refine List.mem_append_right _ ?_
  rw [if_pos (ops_in m)]
  exact List.mem_cons_self
theorem opB_set {c : CuI} {lvl : Nat} {st : Nat × Nat} {o : Str} (m : o ∈ c.vars) : ("set" : Str) ∈ opensB c lvl st := by
  refine List.mem_append_right _ ?_
  rw [if_pos (vars_in m)]
  exact List.mem_append_left _ List.mem_cons_self
theorem opB_draw {c : CuI} {lvl : Nat} {st : Nat × Nat} {o x : Str} (m : o ∈ c.vars) (h : st.1 + st.2 < 24) (hx : x ∈ (["draw", "first", "second"] : List Str)) : x ∈ opensB c lvl st := by
  refine List.mem_append_right _ ?_
  rw [if_pos (vars_in m), if_pos h]
  exact List.mem_append_right _ hx
theorem opB_stop {c : CuI} {lvl : Nat} {st : Nat × Nat} {x : Str} (h : x = "end" ∨ x = "else") : x ∉ opensB c lvl st := fun m => by
  have all : x ∈ (["show", "pay", "take", "if", "when", "set", "draw", "first", "second"] : List Str) := by
    rcases List.mem_append.mp m with m | m
    · rcases List.mem_append.mp m with m | m
      · simp only [List.mem_cons, List.not_mem_nil, or_false] at m ⊢
        rcases m with m | m | m <;> simp [m]
      · split at m
        · rcases List.mem_append.mp m with m | m
          · rw [List.mem_singleton.mp m]; simp
          · split at m
            · rw [List.mem_singleton.mp m]; simp
            · cases m
        · cases m
    · split at m
      · rcases List.mem_append.mp m with m | m
        · rw [List.mem_singleton.mp m]; simp
        · split at m
          · simp only [List.mem_cons, List.not_mem_nil, or_false] at m ⊢
            rcases m with m | m | m <;> simp [m]
          · cases m
      · cases m
  revert all
  rcases h with rfl | rfl <;> decide +kernel
theorem expr_back {c : CuI} (hv : ∀ x ∈ c.vars, Nm x) (se : c.se = false) (mk : Ex → St) {e : Ex} {i : Nat} {st : Nat × Nat} (g : EGd c.vars c.ops e) (sub : SubAt c.ws i e.words) : exprM c mk i st = .ok (mk e) (i + e.words.length) st := by
  unfold exprM
  rw [read_e hv g.1 (by rw [se]; exact g.2.2) g.2.1 sub]
theorem stmt_back {c : CuI} {g : Nat → Nat × Nat → BkR} {lvl : Nat} (hv : ∀ x ∈ c.vars, Nm x) (se : c.se = false) (hg : ∀ l, lvl = l + 1 → RB c l g) {s : St} {i : Nat} {a b : Nat × Nat} (G : s.G c.vars c.ops a b) (hl : s.lv ≤ lvl) (sub : SubAt c.ws i s.words) :
    wd0 s ∈ opensB c lvl a ∧ c.ws[i]? = some (wd0 s) ∧ stmtM c g (wd0 s) (i + 1) a = .ok s (i + s.words.length) b := by
  have e0 : c.ws[i]? = some (wd0 s) := by
    obtain ⟨r, e⟩ := words_hd s
    rw [e] at sub
    exact sub.head
  obtain ⟨k1, k2, k3, k4, k5, k6, k7, k8, k9, k10, k11, k12, k13, k14, k15, k16, k17, k18, k19, k20⟩ : ("when" : Str) ≠ "if" ∧ ("show" : Str) ≠ "if" ∧ ("show" : Str) ≠ "when" ∧ ("set" : Str) ≠ "if" ∧ ("set" : Str) ≠ "when" ∧ ("set" : Str) ≠ "show" ∧ ("draw" : Str) ≠ "if" ∧ ("draw" : Str) ≠ "when" ∧ ("draw" : Str) ≠ "show" ∧ ("draw" : Str) ≠ "set" ∧ ("pay" : Str) ≠ "if" ∧ ("pay" : Str) ≠ "when" ∧ ("pay" : Str) ≠ "show" ∧ ("pay" : Str) ≠ "set" ∧ ("pay" : Str) ∉ (["draw", "first", "second"] : List Str) ∧
    ("take" : Str) ≠ "if" ∧ ("take" : Str) ≠ "when" ∧ ("take" : Str) ≠ "show" ∧ ("take" : Str) ≠ "set" ∧ ("take" : Str) ∉ (["draw", "first", "second"] : List Str) := by decide +kernel
  refine ⟨?_, e0, ?_⟩
  · cases s with
    | set x e => exact opB_set G.1
    | ite e t f => exact opB_if (by have : max (lvL t) (lvL f) + 1 ≤ lvl := hl; omega)
    | whn o t f => exact opB_when (by have : max (lvL t) (lvL f) + 1 ≤ lvl := hl; omega) G.1
    | draw x n => exact opB_draw G.1 G.2.2.1 List.mem_cons_self
    | move p x n k => exact opB_draw G.2.1 G.2.2.2.2.1 (seat_facts p G.1).2.2.1
    | «show» p e => exact opB_base List.mem_cons_self
    | pay s e =>
      refine opB_base ?_
      show s ∈ (["show", "pay", "take"] : List Str)
      rcases G.1 with rfl | rfl <;> decide +kernel
  · unfold stmtM
    cases s with
    | set x e =>
      obtain ⟨m, ge, rfl⟩ := G
      have s1 := SubAt.tail sub
      show (if ("set" : Str) = "if" then _ else if ("set" : Str) = "when" then _ else if ("set" : Str) = "show" then _ else if ("set" : Str) = "set" then (match nameM c.ws c.vars (i + 1) with
        | none => StR.bad (i + 1)
        | some y => exprM c (.set y) (i + 1 + 1) b) else _) = _
      rw [if_neg k4, if_neg k5, if_neg k6, if_pos rfl, nameM_is s1.head m]
      show exprM c (.set x) (i + 1 + 1) b = _
      rw [expr_back hv se (.set x) ge s1.tail]
      show StR.ok _ _ _ = StR.ok _ (i + (e.words.length + 1 + 1)) _
      rw [show i + (e.words.length + 1 + 1) = i + 1 + 1 + e.words.length by omega]
    | ite e t f =>
      obtain ⟨ge, m, gt, gf⟩ := G
      have hl' : max (lvL t) (lvL f) + 1 ≤ lvl := hl
      obtain ⟨l, rfl⟩ : ∃ l, lvl = l + 1 := ⟨lvl - 1, by omega⟩
      have s1 : SubAt c.ws (i + 1) (e.words ++ branchW t f) := SubAt.tail sub
      show (if ("if" : Str) = "if" then (match readM c 12 (i + 1) with
        | .bad j => StR.bad j
        | .ok e j => branchM c g (.ite e) j a) else _) = _
      rw [if_pos rfl, read_e hv ge.1 (by rw [se]; exact ge.2.2) ge.2.1 s1.left]
      show branchM c g (.ite e) (i + 1 + e.words.length) a = _
      rw [branch_back (hg l rfl) (.ite e) gt gf (by omega) (by omega) s1.right]
      show StR.ok _ _ _ = StR.ok _ (i + ((e.words ++ branchW t f).length + 1)) _
      rw [List.length_append, show i + (e.words.length + (branchW t f).length + 1) = i + 1 + e.words.length + (branchW t f).length by omega]
    | whn o t f =>
      obtain ⟨mo, m, gt, gf⟩ := G
      have hl' : max (lvL t) (lvL f) + 1 ≤ lvl := hl
      obtain ⟨l, rfl⟩ : ∃ l, lvl = l + 1 := ⟨lvl - 1, by omega⟩
      have s1 : SubAt c.ws (i + 1) (o :: branchW t f) := SubAt.tail sub
      show (if ("when" : Str) = "if" then _ else if ("when" : Str) = "when" then (match nameM c.ws c.ops (i + 1) with
        | none => StR.bad (i + 1)
        | some o => branchM c g (.whn o) (i + 1 + 1) a) else _) = _
      rw [if_neg k1, if_pos rfl, nameM_is s1.head mo]
      show branchM c g (.whn o) (i + 1 + 1) a = _
      rw [branch_back (hg l rfl) (.whn o) gt gf (by omega) (by omega) s1.tail]
      show StR.ok _ _ _ = StR.ok _ (i + ((branchW t f).length + 1 + 1)) _
      rw [show i + ((branchW t f).length + 1 + 1) = i + 1 + 1 + (branchW t f).length by omega]
    | draw x n =>
      obtain ⟨m, ⟨n1, n2⟩, h24, rfl⟩ := G
      obtain ⟨k, rfl⟩ := Int.eq_ofNat_of_zero_le (show 0 ≤ n by omega)
      have s1 := SubAt.tail sub
      show (if ("draw" : Str) = "if" then _ else if ("draw" : Str) = "when" then _ else if ("draw" : Str) = "show" then _ else if ("draw" : Str) = "set" then _ else if ("draw" : Str) ∈ (["draw", "first", "second"] : List Str) then choiceM c "draw" (i + 1) a else _) = _
      rw [if_neg k7, if_neg k8, if_neg k9, if_neg k10, if_pos List.mem_cons_self]
      unfold choiceM
      rw [nameM_is s1.head m]
      show (if ("draw" : Str) = "draw" then (match numM c.ws 1 64 (i + 1 + 1) with
        | none => StR.bad (i + 1 + 1)
        | some n => .ok (.draw x n) (i + 1 + 2) (a.1 + 1, a.2)) else _) = _
      rw [if_pos rfl, numM_is (n := k) s1.tail.head (by omega) (by omega)]
      rfl
    | move p x n k =>
      obtain ⟨hp, m, ⟨n1, n2⟩, rfl, h24, rfl⟩ := G
      obtain ⟨j, rfl⟩ := Int.eq_ofNat_of_zero_le (show 0 ≤ n by omega)
      obtain ⟨f1, f2, f3, f4, f5, f6, f7⟩ := seat_facts p hp
      have s1 := SubAt.tail sub
      show (if seatS p = "if" then _ else if seatS p = "when" then _ else if seatS p = "show" then _ else if seatS p = "set" then _ else if seatS p ∈ (["draw", "first", "second"] : List Str) then choiceM c (seatS p) (i + 1) a else _) = _
      rw [if_neg f4, if_neg f5, if_neg f6, if_neg f7, if_pos f3]
      unfold choiceM
      rw [nameM_is s1.head m]
      show (if seatS p = "draw" then _ else (match numM c.ws 1 8 (i + 1 + 1) with
        | none => StR.bad (i + 1 + 1)
        | some n => .ok (.move (seatN (seatS p)) x n a.2) (i + 1 + 2) (a.1, a.2 + 1))) = _
      rw [if_neg f2, numM_is (n := j) s1.tail.head (by omega) (by omega), f1]
      rfl
    | «show» p e =>
      obtain ⟨hp, ge, rfl⟩ := G
      obtain ⟨f1, f2⟩ := seat_in hp
      have s1 := SubAt.tail sub
      show (if ("show" : Str) = "if" then _ else if ("show" : Str) = "when" then _ else if ("show" : Str) = "show" then (match nameM c.ws seatL (i + 1) with
        | none => StR.bad (i + 1)
        | some s => exprM c (.show (seatN s)) (i + 1 + 1) b) else _) = _
      rw [if_neg k2, if_neg k3, if_pos rfl, nameM_is s1.head f1]
      show exprM c (.show (seatN (seatS p))) (i + 1 + 1) b = _
      rw [f2, expr_back hv se (.show p) ge s1.tail]
      show StR.ok _ _ _ = StR.ok _ (i + (e.words.length + 1 + 1)) _
      rw [show i + (e.words.length + 1 + 1) = i + 1 + 1 + e.words.length by omega]
    | pay s e =>
      obtain ⟨hs, ge, rfl⟩ := G
      have s1 := SubAt.tail sub
      show (if s = "if" then _ else if s = "when" then _ else if s = "show" then _ else if s = "set" then _ else if s ∈ (["draw", "first", "second"] : List Str) then _ else exprM c (.pay s) (i + 1) b) = _
      have z : s ≠ "if" ∧ s ≠ "when" ∧ s ≠ "show" ∧ s ≠ "set" ∧ s ∉ (["draw", "first", "second"] : List Str) := by
        rcases hs with rfl | rfl
        · exact ⟨k11, k12, k13, k14, k15⟩
        · exact ⟨k16, k17, k18, k19, k20⟩
      rw [if_neg z.1, if_neg z.2.1, if_neg z.2.2.1, if_neg z.2.2.2.1, if_neg z.2.2.2.2, expr_back hv se (.pay s) ge s1]
      show StR.ok _ _ _ = StR.ok _ (i + (e.words.length + 1)) _
      rw [show i + (e.words.length + 1) = i + 1 + e.words.length by omega]
theorem loop_back {c : CuI} {g : Nat → Nat × Nat → BkR} {lvl : Nat} (hv : ∀ x ∈ c.vars, Nm x) (se : c.se = false) (hg : ∀ l, lvl = l + 1 → RB c l g) : ∀ (ss : List St) (n i : Nat) (a b : Nat × Nat), GL c.vars c.ops ss a b → lvL ss ≤ lvl → SubAt c.ws i (blockW ss) → Stop c.ws (i + (blockW ss).length) → ss.length ≤ n →
    loopM (headM c lvl g) n i a = .ok ss (i + (blockW ss).length) b
  | [], 0, i, a, b, G, _, _, _, _ => by
    have e : b = a := G
    rw [e]
    rfl
  | [], n + 1, i, a, b, G, _, _, st, _ => by
    have e : b = a := G
    rw [e]
    have h : headM c lvl g i a = none := by
      unfold headM
      cases w : c.ws[i]? with
      | none => rfl
      | some x =>
        show (if x ∈ opensB c lvl a then _ else none) = _
        rw [if_neg (opB_stop (st x w))]
    unfold loopM
    rw [h]
    rfl
  | s :: r, 0, i, a, b, _, _, _, _, h => by
    rw [List.length_cons] at h
    omega
  | s :: r, n + 1, i, a, b, ⟨m, G1, G2⟩, hl, sub, st, h => by
    have hl' : max s.lv (lvL r) ≤ lvl := hl
    have bl : (blockW (s :: r)).length = s.words.length + (blockW r).length := by
      show (s.words ++ blockW r).length = _
      rw [List.length_append]
    have sub' : SubAt c.ws i (s.words ++ blockW r) := sub
    obtain ⟨h1, h2, h3⟩ := stmt_back hv se hg G1 (by omega) sub'.left
    have hh : headM c lvl g i a = some (.ok s (i + s.words.length) m) := by
      unfold headM
      rw [h2]
      show (if wd0 s ∈ opensB c lvl a then some (stmtM c g (wd0 s) (i + 1) a) else none) = _
      rw [if_pos h1, h3]
    unfold loopM
    rw [hh]
    show (match loopM (headM c lvl g) n (i + s.words.length) m with
      | .bad j' => BkR.bad j'
      | .ok ss j' st'' => .ok (s :: ss) j' st'') = _
    rw [bl, ← Nat.add_assoc] at st
    rw [loop_back hv se hg r n _ m b G2 (by omega) sub'.right st (by rw [List.length_cons] at h; omega), bl, ← Nat.add_assoc]
theorem len_words : ∀ ss : List St, ss.length ≤ (blockW ss).length
  | [] => Nat.le_refl _
  | s :: r => by
    obtain ⟨u, e⟩ := words_hd s
    have := len_words r
    show r.length + 1 ≤ (s.words ++ blockW r).length
    rw [List.length_append, e, List.length_cons]
    omega
theorem block_back {c : CuI} (hv : ∀ x ∈ c.vars, Nm x) (se : c.se = false) : ∀ l, RB c l (blockM c l)
  | 0 => fun ss i a b G hl sub st => by
    unfold blockM
    refine loop_back hv se (fun l z => by omega) ss _ i a b G hl sub st ?_
    have := len_words ss
    by_cases z : blockW ss = []
    · rw [z] at this
      exact Nat.le_trans this (Nat.zero_le _)
    · have := sub.len z
      omega
  | l + 1 => fun ss i a b G hl sub st => by
    unfold blockM
    refine loop_back hv se (fun k z => by cases z; exact block_back hv se l) ss _ i a b G hl sub st ?_
    have := len_words ss
    by_cases z : blockW ss = []
    · rw [z] at this
      exact Nat.le_trans this (Nat.zero_le _)
    · have := sub.len z
      omega
/-! ### options, variables, rounds -/
def onS (b : Bool) : Str := if b = true then "on" else "off"
def optW (q : Str × Bool) : List Str := ["option", q.1, onS q.2]
def varW (q : Str × Int) : List Str := ["var", q.1, numS q.2]
def rndW (q : Str × List St) : List Str := "round" :: q.1 :: (blockW q.2 ++ (["end"] : List Str))
def fl {α : Type} (f : α → List Str) (xs : List α) : List Str := (xs.map f).flatten
theorem fl_cons {α : Type} (f : α → List Str) (x : α) (xs : List α) : fl f (x :: xs) = f x ++ fl f xs := rfl
theorem fl_app {α : Type} (f : α → List Str) (xs ys : List α) : fl f (xs ++ ys) = fl f xs ++ fl f ys := by
  unfold fl
  rw [List.map_append, List.flatten_append]
theorem nm_key {x : Str} (h : Nm x) : NameP x := by
  obtain ⟨⟨d, r, e, l, hr, hl⟩, k⟩ := h
  have len : x.length = r.length + 1 := by
    show x.cps.toList.length = _
    rw [e, List.length_cons]
  refine ⟨by omega, by omega, ?_, fun k c hc => ?_⟩
  · have kv : keyV = kwL.map V.str := by decide +kernel
    rw [kv, inV_strs, decide_eq_false k]
  · rw [e] at hc
    cases k with
    | zero => cases hc; exact .inl l
    | succ k =>
      rw [List.getElem?_cons_succ] at hc
      rcases hr c (List.mem_of_getElem? hc) with z | z
      · exact .inl z
      · exact .inr ⟨Nat.succ_pos _, z⟩
/-- names that are new, one after the other -/
def NewL (acc ns : List Str) : Prop := (∀ x ∈ ns, Nm x) ∧ ns.Nodup ∧ ∀ x ∈ ns, x ∉ acc
theorem NewL.hd {acc : List Str} {x : Str} {ns : List Str} (h : NewL acc (x :: ns)) : Nm x ∧ x ∉ acc := ⟨h.1 x List.mem_cons_self, h.2.2 x List.mem_cons_self⟩
theorem NewL.tl {acc : List Str} {x : Str} {ns : List Str} (h : NewL acc (x :: ns)) : NewL (acc ++ [x]) ns := by
  obtain ⟨h1, h2, h3⟩ := h
  rw [List.nodup_cons] at h2
  refine ⟨fun y m => h1 y (List.mem_cons_of_mem _ m), h2.2, fun y m z => ?_⟩
  rcases List.mem_append.mp z with z | z
  · exact h3 y (List.mem_cons_of_mem _ m) z
  · rw [List.mem_singleton.mp z] at m
    exact h2.1 m
theorem fresh_is {ws acc : List Str} {i : Nat} {x : Str} (e : ws[i]? = some x) (h : Nm x ∧ x ∉ acc) : freshM ws acc i = some x := freshM_some e (nm_key h.1) h.2
theorem on_back (b : Bool) : onS b ∈ (["on", "off"] : List Str) ∧ decide (onS b = "on") = b := by
  cases b <;> decide +kernel
theorem opts_back {ws : List Str} : ∀ (os : List (Str × Bool)) (f : Nat) (acc : List (Str × Bool)) (i : Nat), SubAt ws i (fl optW os) → NewL (acc.map (·.1)) (os.map (·.1)) → acc.length + os.length ≤ 6 → os.length < f → ws[i + (fl optW os).length]? ≠ some ("option" : Str) →
    optsM ws f acc i = .ok (acc ++ os) (i + (fl optW os).length)
  | [], 0, acc, i, _, _, _, h, _ => absurd h (Nat.lt_irrefl 0)
  | [], f + 1, acc, i, _, _, _, _, no => by
    unfold optsM
    rw [if_neg fun z => no z.1, List.append_nil]
    rfl
  | q :: os, 0, acc, i, _, _, _, h, _ => absurd h (Nat.not_lt_zero _)
  | q :: os, f + 1, acc, i, sub, nl, l6, h, no => by
    rw [List.length_cons] at h l6
    have s0 : SubAt ws i ("option" :: q.1 :: onS q.2 :: fl optW os) := sub
    have e0 := s0.head
    have e1 := s0.tail.head
    have e2 := s0.tail.tail.head
    have s3 := s0.tail.tail.tail
    have ll : (fl optW (q :: os)).length = (fl optW os).length + 3 := rfl
    obtain ⟨o1, o2⟩ := on_back q.2
    unfold optsM
    rw [if_pos ⟨e0, by omega⟩, fresh_is e1 nl.hd]
    show (match nameM ws ["on", "off"] (i + 1 + 1) with
      | none => HdR.bad (i + 2)
      | some y => optsM ws f (acc ++ [(q.1, decide (y = "on"))]) (i + 3)) = _
    rw [nameM_is e2 o1]
    show optsM ws f (acc ++ [(q.1, decide (onS q.2 = "on"))]) (i + 3) = _
    have ei : i + (fl optW (q :: os)).length = i + 3 + (fl optW os).length := by omega
    rw [ei] at no ⊢
    rw [o2, opts_back os f (acc ++ [q]) (i + 3) s3 (by rw [List.map_append]; exact nl.tl) (by rw [List.length_append]; show acc.length + 1 + os.length ≤ 6; omega) (by omega) no, List.append_assoc]
    rfl
theorem vars_back {ws : List Str} : ∀ (os : List (Str × Int)) (f : Nat) (acc : List (Str × Int)) (i : Nat), SubAt ws i (fl varW os) → NewL (acc.map (·.1)) (os.map (·.1)) → (∀ q ∈ os, 1 ≤ q.2 ∧ q.2 ≤ 65535) → acc.length + os.length ≤ 12 → os.length < f → ws[i + (fl varW os).length]? ≠ some ("var" : Str) →
    varsM ws f acc i = .ok (acc ++ os) (i + (fl varW os).length)
  | [], 0, acc, i, _, _, _, _, h, _ => absurd h (Nat.lt_irrefl 0)
  | [], f + 1, acc, i, _, _, _, _, _, no => by
    unfold varsM
    rw [if_neg fun z => no z.1, List.append_nil]
    rfl
  | q :: os, 0, acc, i, _, _, _, _, h, _ => absurd h (Nat.not_lt_zero _)
  | q :: os, f + 1, acc, i, sub, nl, hq, l6, h, no => by
    rw [List.length_cons] at h l6
    obtain ⟨x, n⟩ := q
    have hn := hq (x, n) List.mem_cons_self
    obtain ⟨k, rfl⟩ := Int.eq_ofNat_of_zero_le (show 0 ≤ n by have := hn.1; omega)
    have s0 : SubAt ws i ("var" :: x :: numS ((k : Nat) : Int) :: fl varW os) := sub
    have e0 := s0.head
    have e1 := s0.tail.head
    have e2 := s0.tail.tail.head
    have s3 := s0.tail.tail.tail
    have ll : (fl varW ((x, ((k : Nat) : Int)) :: os)).length = (fl varW os).length + 3 := rfl
    have hn1 : 1 ≤ ((k : Nat) : Int) := hn.1
    have hn2 : ((k : Nat) : Int) ≤ 65535 := hn.2
    unfold varsM
    rw [if_pos ⟨e0, by omega⟩, fresh_is e1 nl.hd]
    show (match numM ws 1 65535 (i + 1 + 1) with
      | none => HdR.bad (i + 2)
      | some y => varsM ws f (acc ++ [(x, ((y : Nat) : Int))]) (i + 3)) = _
    rw [numM_is e2 (by omega) (by omega)]
    show varsM ws f (acc ++ [(x, ((k : Nat) : Int))]) (i + 3) = _
    have ei : i + (fl varW ((x, ((k : Nat) : Int)) :: os)).length = i + 3 + (fl varW os).length := by omega
    rw [ei] at no ⊢
    rw [vars_back os f (acc ++ [(x, ((k : Nat) : Int))]) (i + 3) s3 (by rw [List.map_append]; exact nl.tl) (fun z m => hq z (List.mem_cons_of_mem _ m)) (by rw [List.length_append]; show acc.length + 1 + os.length ≤ 12; omega) (by omega) no, List.append_assoc]
    rfl
/-- rounds, from so many draws and moves -/
def GR (vs os : List Str) : List (Str × List St) → Nat × Nat → Prop
  | [], _ => True
  | q :: r, a => ∃ m, GL vs os q.2 a m ∧ lvL q.2 ≤ 8 ∧ GR vs os r m
theorem rnds_back {c : CuI} (hv : ∀ x ∈ c.vars, Nm x) (se : c.se = false) : ∀ (rs : List (Str × List St)) (f : Nat) (acc : List (Str × List St)) (i : Nat) (a : Nat × Nat), SubAt c.ws i (fl rndW rs) → NewL (acc.map (·.1)) (rs.map (·.1)) → GR c.vars c.ops rs a → acc.length + rs.length ≤ 8 → rs.length < f → c.ws[i + (fl rndW rs).length]? ≠ some ("round" : Str) →
    rndsM c f acc i a = .ok (acc ++ rs) (i + (fl rndW rs).length)
  | [], 0, acc, i, a, _, _, _, _, h, _ => absurd h (Nat.lt_irrefl 0)
  | [], f + 1, acc, i, a, _, _, _, _, _, no => by
    unfold rndsM
    rw [if_neg fun z => no z.1, List.append_nil]
    rfl
  | q :: os, 0, acc, i, a, _, _, _, _, h, _ => absurd h (Nat.not_lt_zero _)
  | q :: os, f + 1, acc, i, a, sub, nl, ⟨m, g1, g2, g3⟩, l6, h, no => by
    rw [List.length_cons] at h l6
    have s0 : SubAt c.ws i ("round" :: q.1 :: ((blockW q.2 ++ (["end"] : List Str)) ++ fl rndW os)) := sub
    have e0 := s0.head
    have e1 := s0.tail.head
    have s2 := s0.tail.tail
    have sb := s2.left.left
    have e3 : c.ws[i + 1 + 1 + (blockW q.2).length]? = some ("end" : Str) := s2.left.right.head
    have s3 := s2.right
    have ll : (fl rndW (q :: os)).length = (blockW q.2 ++ (["end"] : List Str)).length + (fl rndW os).length + 2 := by
      show ((blockW q.2 ++ (["end"] : List Str)) ++ fl rndW os).length + 1 + 1 = _
      rw [List.length_append]
    rw [List.length_append] at ll s3
    have lb1 : (["end"] : List Str).length = 1 := rfl
    unfold rndsM
    rw [if_pos ⟨e0, by omega⟩, fresh_is e1 nl.hd]
    show (match blockM c 8 (i + 1 + 1) a with
        | .bad j => HdR.bad j
        | .ok ss j st' => if c.ws[j]? = some ("end" : Str) then rndsM c f (acc ++ [(q.1, ss)]) (j + 1) st' else .bad j) = _
    rw [block_back hv se 8 q.2 (i + 1 + 1) a m g1 g2 sb fun x z => by rw [e3] at z; exact .inl (Option.some.inj z).symm]
    show (if c.ws[i + 1 + 1 + (blockW q.2).length]? = some ("end" : Str) then rndsM c f (acc ++ [(q.1, q.2)]) (i + 1 + 1 + (blockW q.2).length + 1) m else _) = _
    rw [if_pos e3]
    have ei : i + (fl rndW (q :: os)).length = i + 1 + 1 + (blockW q.2).length + 1 + (fl rndW os).length := by omega
    rw [ei] at no ⊢
    rw [rnds_back hv se os f (acc ++ [q]) (i + 1 + 1 + (blockW q.2).length + 1) m s3 (by rw [List.map_append]; exact nl.tl) g3 (by rw [List.length_append]; show acc.length + 1 + os.length ≤ 8; omega) (by omega) no, List.append_assoc]
    rfl
/-- the data of a game -/
structure GOk (os : List (Str × Bool)) (us : List (Str × Int)) (rs : List (Str × List St)) : Prop where
  o : NewL [] (os.map (·.1))
  o6 : os.length ≤ 6
  u : NewL [] (us.map (·.1))
  u12 : us.length ≤ 12
  un : ∀ q ∈ us, 1 ≤ q.2 ∧ q.2 ≤ 65535
  r : NewL [] (rs.map (·.1))
  r8 : rs.length ≤ 8
  g : GR (us.map (·.1)) (os.map (·.1)) rs (0, 0)
def gameW (os : List (Str × Bool)) (us : List (Str × Int)) (rs : List (Str × List St)) : List Str := fl optW os ++ (fl varW us ++ fl rndW rs)
theorem fl_head {α : Type} {f : α → List Str} {w : Str} (hf : ∀ x, ∃ r, f x = w :: r) : ∀ (xs : List α) (k : List Str), (xs = [] ∧ fl f xs ++ k = k) ∨ ∃ r, fl f xs ++ k = w :: r
  | [], k => .inl ⟨rfl, rfl⟩
  | x :: xs, k => by
    obtain ⟨r, e⟩ := hf x
    refine .inr ⟨r ++ fl f xs ++ k, ?_⟩
    rw [fl_cons, e]
    rfl
theorem drop_head {ws : List Str} {a b : List Str} (e : ws = a ++ b) : ws[a.length]? = b[0]? := by
  rw [e, List.getElem?_append_right (Nat.le_refl _), Nat.sub_self]
/-- the words of a game are read as the game -/
theorem game_back {K : PySem.W.Frag} {C B : Addr} {H : Hp} {os : List (Str × Bool)} {us : List (Str × Int)} {rs : List (Str × List St)} {Q : VK} {E : XK} (h : GOk os us rs) (q : ∀ g H', Same H H' → H g = none → GameS K C H' g os us rs → Q (.ref g) H') : GmK K C B H (gameW os us rs) Q E := by
  have s0 : SubAt (gameW os us rs) 0 (gameW os us rs) := fun j x e => by rw [Nat.zero_add]; exact e
  have hu := fl_head (f := varW) (w := "var") (fun x => ⟨_, rfl⟩) us (fl rndW rs)
  have hr := fl_head (f := rndW) (w := "round") (fun x => ⟨_, rfl⟩) rs []
  rw [List.append_nil] at hr
  obtain ⟨n1, n2, n3⟩ : ("var" : Str) ≠ "option" ∧ ("round" : Str) ≠ "option" ∧ ("round" : Str) ≠ "var" := by decide +kernel
  have r0 : ∀ w : Str, w ≠ "round" → (fl rndW rs)[0]? ≠ some w := fun w nw z => by
    rcases hr with ⟨_, e⟩ | ⟨r, e⟩
    · rw [e] at z; cases z
    · rw [e] at z
      exact nw (Option.some.inj z).symm
  have no1 : (gameW os us rs)[0 + (fl optW os).length]? ≠ some ("option" : Str) := by
    rw [Nat.zero_add, drop_head (ws := gameW os us rs) (a := fl optW os) rfl]
    rcases hu with ⟨_, e⟩ | ⟨r, e⟩
    · rw [e]
      exact r0 _ n2.symm
    · rw [e]
      exact fun z => n1 (Option.some.inj z)
  have e1 : gameW os us rs = (fl optW os ++ fl varW us) ++ fl rndW rs := (List.append_assoc _ _ _).symm
  have no2 : (gameW os us rs)[0 + (fl optW os).length + (fl varW us).length]? ≠ some ("var" : Str) := by
    rw [Nat.zero_add, ← List.length_append, drop_head e1]
    exact r0 _ n3.symm
  have e2 : gameW os us rs = gameW os us rs ++ [] := (List.append_nil _).symm
  have end_ : (gameW os us rs)[0 + (fl optW os).length + (fl varW us).length + (fl rndW rs).length]? = none := by
    rw [Nat.zero_add, ← List.length_append, ← List.length_append, ← e1]
    exact List.getElem?_eq_none (Nat.le_refl _)
  have o1 : optsM (gameW os us rs) 7 [] 0 = .ok os (0 + (fl optW os).length) := opts_back os 7 [] 0 s0.left h.o (by have := h.o6; show 0 + os.length ≤ 6; omega) (by have := h.o6; omega) no1
  have o2 : varsM (gameW os us rs) 13 [] (0 + (fl optW os).length) = .ok us (0 + (fl optW os).length + (fl varW us).length) := vars_back us 13 [] _ s0.right.left h.u h.un (by have := h.u12; show 0 + us.length ≤ 12; omega) (by have := h.u12; omega) no2
  unfold GmK
  rw [o1]
  show (match varsM (gameW os us rs) 13 [] (0 + (fl optW os).length) with
    | .bad j => _
    | .ok us j => _)
  rw [o2]
  intro c hc
  obtain ⟨c1, c2, c3, c4⟩ := hc
  have o3 : rndsM c 9 [] (0 + (fl optW os).length + (fl varW us).length) (0, 0) = .ok rs (0 + (fl optW os).length + (fl varW us).length + (fl rndW rs).length) := by
    refine rnds_back (by rw [c3]; exact h.u.1) c4 rs 9 [] _ (0, 0) (by rw [c1]; exact s0.right.right) h.r (by rw [c2, c3]; exact h.g) (by have := h.r8; show 0 + rs.length ≤ 8; omega) (by have := h.r8; omega) ?_
    rw [c1, end_]
    exact fun z => by cases z
  rw [o3]
  exact ⟨fun _ => q, fun z => absurd end_ z⟩


/-! ### the text of a game -/
def WdC (x : Str) : Prop := (∀ c ∈ x.cps.toList, c < 128 ∧ c ≠ 32) ∧ x.length ≤ 12
def wdB (x : Str) : Bool := x.cps.toList.all (fun c => decide (c < 128 ∧ c ≠ 32)) && decide (x.length ≤ 12)
theorem wdC_of {ss : List Str} (h : ss.all wdB = true) {x : Str} (m : x ∈ ss) : WdC x := by
  have := List.all_eq_true.mp h x m
  unfold wdB at this
  rw [Bool.and_eq_true] at this
  exact ⟨fun c mc => of_decide_eq_true (List.all_eq_true.mp this.1 c mc), of_decide_eq_true this.2⟩
theorem Nm.wd {x : Str} (h : Nm x) : WdC x := by
  refine ⟨fun c m => ⟨h.1.lt c m, fun z => ?_⟩, h.1.len⟩
  obtain ⟨⟨d, r, e, l, hr, _⟩, _⟩ := h
  rw [e] at m
  rcases List.mem_cons.mp m with rfl | m
  · have := l.1
    omega
  · rcases hr c m with z2 | z2
    · have := z2.1
      omega
    · omega
theorem num_wd {n : Int} (h0 : 0 ≤ n) (h1 : n < 65536) : WdC (numS n) := by
  obtain ⟨k, rfl⟩ := Int.eq_ofNat_of_zero_le h0
  have e : (numS ((k : Nat) : Int)).cps.toList = TL.numL k := TL.tl_num k
  refine ⟨fun c m => ?_, ?_⟩
  · rw [e] at m
    have := TL.numL_digits k c m
    omega
  · have := (num_asc k (by omega)).2
    exact Nat.le_trans this (by decide)
def kwsA : List Str := (["option", "on", "off", "var", "round", "end", "set", "if", "else", "when", "draw", "first", "second", "show", "both", "pay", "take", "pick", "number", "variable"] : List Str) ++ opL
theorem kwsA_ok : kwsA.all wdB = true := by decide +kernel
theorem kw_wd {x : Str} (m : x ∈ kwsA) : WdC x := wdC_of kwsA_ok m
theorem e_wd {vs os : List Str} (hv : ∀ x ∈ vs, Nm x) (ho : ∀ x ∈ os, Nm x) : ∀ e : Ex, e.Wf vs os → e.Se false → ∀ w ∈ e.words, WdC w
  | .num n, h, _, w, m => by
    rw [List.mem_singleton.mp m]
    exact num_wd h.1 h.2
  | .var x, h, _, w, m => by
    rw [List.mem_singleton.mp m]
    exact (hv x h).wd
  | .long, _, h, _, _ => Bool.noConfusion (show false = true from h)
  | .view e, _, h, _, _ => Bool.noConfusion (show false = true from h.1)
  | .pick x a b, h, g, w, m => by
    rcases List.mem_cons.mp m with rfl | m
    · exact kw_wd (by decide +kernel)
    rcases List.mem_cons.mp m with rfl | m
    · exact (ho _ h.1).wd
    rcases List.mem_append.mp m with m | m
    · exact e_wd hv ho a h.2.1 g.1 w m
    · exact e_wd hv ho b h.2.2 g.2 w m
  | .op s a b, h, g, w, m => by
    rcases List.mem_cons.mp m with rfl | m
    · exact kw_wd (List.mem_append_right _ h.1)
    rcases List.mem_append.mp m with m | m
    · exact e_wd hv ho a h.2.1 g.1 w m
    · exact e_wd hv ho b h.2.2 g.2 w m
theorem seat_wd (p : Int) : WdC (seatS p) := by
  have : seatS p ∈ kwsA := by
    unfold seatS
    match p.toNat with
    | 0 => decide +kernel
    | 1 => decide +kernel
    | 2 => decide +kernel
    | n + 3 => exact (show ("both" : Str) ∈ kwsA by decide +kernel)
  exact kw_wd this
theorem br_wd {t f : List St} (h1 : ∀ w ∈ blockW t, WdC w) (h2 : ∀ w ∈ blockW f, WdC w) : ∀ w ∈ branchW t f, WdC w := fun w m => by
  unfold branchW at m
  rcases List.mem_append.mp m with m | m
  · exact h1 w m
  rcases List.mem_append.mp m with m | m
  · split at m
    · cases m
    · rcases List.mem_cons.mp m with rfl | m
      · exact kw_wd (by decide +kernel)
      · exact h2 w m
  · rw [List.mem_singleton.mp m]
    exact kw_wd (by decide +kernel)
mutual
theorem st_wd {vs os : List Str} (hv : ∀ x ∈ vs, Nm x) (ho : ∀ x ∈ os, Nm x) : ∀ (s : St) (a b : Nat × Nat), s.G vs os a b → ∀ w ∈ s.words, WdC w
  | .set x e, _, _, h, w, m => by
    rcases List.mem_cons.mp m with rfl | m
    · exact kw_wd (by decide +kernel)
    rcases List.mem_cons.mp m with rfl | m
    · exact (hv _ h.1).wd
    · exact e_wd hv ho e h.2.1.1 h.2.1.2.2 w m
  | .ite e t f, _, _, ⟨h, k, h1, h2⟩, w, m => by
    rcases List.mem_cons.mp m with rfl | m
    · exact kw_wd (by decide +kernel)
    rcases List.mem_append.mp m with m | m
    · exact e_wd hv ho e h.1 h.2.2 w m
    · exact br_wd (bl_wd hv ho t _ _ h1) (bl_wd hv ho f _ _ h2) w m
  | .whn o t f, _, _, ⟨h, k, h1, h2⟩, w, m => by
    rcases List.mem_cons.mp m with rfl | m
    · exact kw_wd (by decide +kernel)
    rcases List.mem_cons.mp m with rfl | m
    · exact (ho _ h).wd
    · exact br_wd (bl_wd hv ho t _ _ h1) (bl_wd hv ho f _ _ h2) w m
  | .draw x n, _, _, h, w, m => by
    rcases List.mem_cons.mp m with rfl | m
    · exact kw_wd (by decide +kernel)
    rcases List.mem_cons.mp m with rfl | m
    · exact (hv _ h.1).wd
    · rw [List.mem_singleton.mp m]
      exact num_wd (by have := h.2.1; omega) (by have := h.2.1; omega)
  | .move p x n k, _, _, h, w, m => by
    rcases List.mem_cons.mp m with rfl | m
    · exact seat_wd p
    rcases List.mem_cons.mp m with rfl | m
    · exact (hv _ h.2.1).wd
    · rw [List.mem_singleton.mp m]
      exact num_wd (by have := h.2.2.1; omega) (by have := h.2.2.1; omega)
  | .show p e, _, _, h, w, m => by
    rcases List.mem_cons.mp m with rfl | m
    · exact kw_wd (by decide +kernel)
    rcases List.mem_cons.mp m with rfl | m
    · exact seat_wd p
    · exact e_wd hv ho e h.2.1.1 h.2.1.2.2 w m
  | .pay s e, _, _, h, w, m => by
    rcases List.mem_cons.mp m with rfl | m
    · rcases h.1 with z | z
      · rw [z]
        exact kw_wd (by decide +kernel)
      · rw [z]
        exact kw_wd (by decide +kernel)
    · exact e_wd hv ho e h.2.1.1 h.2.1.2.2 w m
theorem bl_wd {vs os : List Str} (hv : ∀ x ∈ vs, Nm x) (ho : ∀ x ∈ os, Nm x) : ∀ (ss : List St) (a b : Nat × Nat), GL vs os ss a b → ∀ w ∈ blockW ss, WdC w
  | [], _, _, _, _, m => by cases m
  | s :: r, _, _, ⟨k, h1, h2⟩, w, m => by
    rcases List.mem_append.mp m with m | m
    · exact st_wd hv ho s _ _ h1 w m
    · exact bl_wd hv ho r _ _ h2 w m
end
theorem mem_fl {α : Type} {f : α → List Str} {xs : List α} {w : Str} (h : w ∈ fl f xs) : ∃ x ∈ xs, w ∈ f x := by
  obtain ⟨l, ml, mw⟩ := List.mem_flatten.mp h
  obtain ⟨x, mx, rfl⟩ := List.mem_map.mp ml
  exact ⟨x, mx, mw⟩
theorem gr_mem {vs os : List Str} : ∀ {rs : List (Str × List St)} {q : Str × List St} {a : Nat × Nat}, GR vs os rs a → q ∈ rs → ∃ m m', GL vs os q.2 m m' ∧ lvL q.2 ≤ 8
  | _ :: _, _, _, ⟨m, h1, h2, h3⟩, e => by
    rcases List.mem_cons.mp e with rfl | e
    · exact ⟨_, _, h1, h2⟩
    · exact gr_mem h3 e
theorem game_wd {os : List (Str × Bool)} {us : List (Str × Int)} {rs : List (Str × List St)} (h : GOk os us rs) : ∀ w ∈ gameW os us rs, WdC w := fun w m => by
  rcases List.mem_append.mp m with m | m
  · obtain ⟨q, mq, m⟩ := mem_fl m
    rcases List.mem_cons.mp m with rfl | m
    · exact kw_wd (by decide +kernel)
    rcases List.mem_cons.mp m with rfl | m
    · exact (h.o.1 _ (List.mem_map.mpr ⟨q, mq, rfl⟩)).wd
    · rw [List.mem_singleton.mp m]
      unfold onS
      split
      · exact kw_wd (by decide +kernel)
      · exact kw_wd (by decide +kernel)
  rcases List.mem_append.mp m with m | m
  · obtain ⟨q, mq, m⟩ := mem_fl m
    rcases List.mem_cons.mp m with rfl | m
    · exact kw_wd (by decide +kernel)
    rcases List.mem_cons.mp m with rfl | m
    · exact (h.u.1 _ (List.mem_map.mpr ⟨q, mq, rfl⟩)).wd
    · rw [List.mem_singleton.mp m]
      have := h.un q mq
      exact num_wd (by omega) (by omega)
  · obtain ⟨q, mq, m⟩ := mem_fl m
    rcases List.mem_cons.mp m with rfl | m
    · exact kw_wd (by decide +kernel)
    rcases List.mem_cons.mp m with rfl | m
    · exact (h.r.1 _ (List.mem_map.mpr ⟨q, mq, rfl⟩)).wd
    rcases List.mem_append.mp m with m | m
    · obtain ⟨k, k', g, _⟩ := gr_mem h.g mq
      exact bl_wd h.u.1 h.o.1 _ _ _ g w m
    · rw [List.mem_singleton.mp m]
      exact kw_wd (by decide +kernel)
mutual
theorem st_wf {vs os : List Str} : ∀ (s : St) (a b : Nat × Nat), s.G vs os a b → s.Wf vs os ∧ s.Nb
  | .set x e, _, _, h => ⟨⟨h.1, h.2.1.1, by have := h.2.1.2.1; omega⟩, trivial⟩
  | .ite e t f, _, _, ⟨h, k, h1, h2⟩ => ⟨⟨⟨h.1, by have := h.2.1; omega⟩, (bl_wf t _ _ h1).1, (bl_wf f _ _ h2).1⟩, (bl_wf t _ _ h1).2, (bl_wf f _ _ h2).2⟩
  | .whn o t f, _, _, ⟨h, k, h1, h2⟩ => ⟨⟨h, (bl_wf t _ _ h1).1, (bl_wf f _ _ h2).1⟩, (bl_wf t _ _ h1).2, (bl_wf f _ _ h2).2⟩
  | .draw x n, _, _, h => ⟨h.1, by have := h.2.1; show 0 ≤ n ∧ n < 65536; omega⟩
  | .move p x n k, _, _, h => ⟨h.2.1, by have := h.1; show 0 ≤ p ∧ p < 3; omega, by have := h.2.2.1; omega⟩
  | .show p e, _, _, h => ⟨⟨h.2.1.1, by have := h.2.1.2.1; omega⟩, h.1⟩
  | .pay s e, _, _, h => ⟨⟨h.1, h.2.1.1, by have := h.2.1.2.1; omega⟩, trivial⟩
theorem bl_wf {vs os : List Str} : ∀ (ss : List St) (a b : Nat × Nat), GL vs os ss a b → WfL vs os ss ∧ NbL ss
  | [], _, _, _ => ⟨trivial, trivial⟩
  | s :: r, _, _, ⟨k, h1, h2⟩ => ⟨⟨(st_wf s _ _ h1).1, (bl_wf r _ _ h2).1⟩, (st_wf s _ _ h1).2, (bl_wf r _ _ h2).2⟩
end
/-! ### words put together -/
def tx (ws : List Str) : Str := Txt.join ⟨#[32]⟩ ws
theorem tx_cps (ws : List Str) : (tx ws).cps.toList = joinC (ws.map (·.cps.toList)) := by
  have : tx ws = Str.join ⟨#[32]⟩ ws := StrLaws.glued_eq_join _ _
  rw [this]
  exact join_cps ws
theorem joinC_app : ∀ (a b : List (List Nat)), a ≠ [] → b ≠ [] → joinC (a ++ b) = joinC a ++ 32 :: joinC b
  | [], _, h, _ => absurd rfl h
  | [x], [], _, h => absurd rfl h
  | [x], y :: r, _, _ => rfl
  | x :: y :: r, b, _, h => by
    have ih := joinC_app (y :: r) b (by simp) h
    show x ++ 32 :: joinC (y :: r ++ b) = (x ++ 32 :: joinC (y :: r)) ++ 32 :: joinC b
    rw [ih]
    simp
theorem joinC_flat : ∀ pss : List (List (List Nat)), (∀ ps ∈ pss, ps ≠ []) → joinC (pss.map joinC) = joinC pss.flatten
  | [], _ => rfl
  | [a], _ => by
    show joinC a = joinC (a ++ [])
    rw [List.append_nil]
  | a :: b :: r, h => by
    have ih := joinC_flat (b :: r) fun p m => h p (List.mem_cons_of_mem _ m)
    have nb := h b (List.mem_cons_of_mem _ List.mem_cons_self)
    show joinC a ++ 32 :: joinC ((b :: r).map joinC) = joinC (a ++ (b :: r).flatten)
    rw [ih, joinC_app a _ (h a List.mem_cons_self) (fun z => by
      rw [List.flatten_cons] at z
      exact nb (List.append_eq_nil_iff.mp z).1)]
theorem tx_flat (pss : List (List Str)) (h : ∀ ps ∈ pss, ps ≠ []) : tx (pss.map tx) = tx pss.flatten := by
  refine ext_toList ?_
  rw [tx_cps, tx_cps, List.map_map, List.map_flatten]
  have e1 : pss.map ((fun x : Str => x.cps.toList) ∘ tx) = (pss.map (List.map (fun x : Str => x.cps.toList))).map joinC := by
    rw [List.map_map]
    exact List.map_congr_left fun ws _ => tx_cps ws
  rw [e1]
  exact joinC_flat _ fun ps m => by
    obtain ⟨ws, mw, rfl⟩ := List.mem_map.mp m
    exact fun z => h ws mw (List.map_eq_nil_iff.mp z)
theorem joinC_le : ∀ ps : List (List Nat), (joinC ps).length ≤ (ps.map List.length).sum + ps.length
  | [] => by simp [joinC]
  | [a] => by simp [joinC]
  | a :: b :: r => by
    have ih := joinC_le (b :: r)
    show (a ++ 32 :: joinC (b :: r)).length ≤ ((a :: b :: r).map List.length).sum + (a :: b :: r).length
    rw [List.map_cons, List.sum_cons, List.length_cons, List.length_append]
    show a.length + ((joinC (b :: r)).length + 1) ≤ a.length + _ + (_ + 1)
    omega
theorem sum12 : ∀ ws : List Str, (∀ w ∈ ws, WdC w) → (ws.map (·.length)).sum ≤ 12 * ws.length
  | [], _ => by simp
  | w :: r, h => by
    have := sum12 r fun x m => h x (List.mem_cons_of_mem _ m)
    have := (h w List.mem_cons_self).2
    rw [List.map_cons, List.sum_cons, List.length_cons]
    omega
theorem tx_len (ws : List Str) : (tx ws).length ≤ (ws.map (·.length)).sum + ws.length := by
  have h := joinC_le (ws.map (·.cps.toList))
  rw [← tx_cps, List.length_map, List.map_map] at h
  exact h
theorem tx_len12 {ws : List Str} (h : ∀ w ∈ ws, WdC w) : (tx ws).length ≤ 13 * ws.length := by
  have := tx_len ws
  have := sum12 ws h
  omega
theorem tx_parts {ws : List Str} (h : ∀ w ∈ ws, WdC w) (n : ws = [] ∨ 2 ≤ ws.length) : Parts ws (tx ws) := by
  rcases n with rfl | n
  · exact .inl ⟨rfl, rfl⟩
  · refine .inr ⟨?_, fun z => ?_, fun w m z => ((h w m).1 32 z).2 rfl, (tx_cps ws).symm⟩
    · have h := joinC_len (ws.map (·.cps.toList))
      rw [← tx_cps, List.length_map] at h
      show 0 < (tx ws).cps.toList.length
      omega
    · rw [z] at n
      cases n
theorem game_two (os : List (Str × Bool)) (us : List (Str × Int)) (rs : List (Str × List St)) : gameW os us rs = [] ∨ 2 ≤ (gameW os us rs).length := by
  unfold gameW
  rw [List.length_append, List.length_append]
  cases os with
  | cons q os =>
    right
    rw [fl_cons, List.length_append]
    show 2 ≤ 3 + _ + _
    omega
  | nil =>
    cases us with
    | cons q us =>
      right
      rw [fl_cons (f := varW), List.length_append (as := varW q)]
      show 2 ≤ _ + (3 + _ + _)
      omega
    | nil =>
      cases rs with
      | cons q rs =>
        right
        rw [fl_cons (f := rndW), List.length_append (as := rndW q)]
        show 2 ≤ _ + (_ + ((blockW q.2 ++ (["end"] : List Str)).length + 1 + 1 + _))
        omega
      | nil => exact .inl rfl
theorem wds_of {ws : List Str} (h : ∀ w ∈ ws, WdC w) : Wds ws := fun w m => ⟨fun c mc => ((h w m).1 c mc).1, Nat.le_trans (h w m).2 (by decide)⟩
def pcs (os : List (Str × Bool)) (us : List (Str × Int)) (rs : List (Str × List St)) : List (List Str) := (os.map optW ++ us.map varW) ++ rs.map rndW
theorem pcs_flat (os : List (Str × Bool)) (us : List (Str × Int)) (rs : List (Str × List St)) : (pcs os us rs).flatten = gameW os us rs := by
  unfold pcs gameW fl
  rw [List.flatten_append, List.flatten_append, List.append_assoc]
theorem sum_tx : ∀ pss : List (List Str), (∀ ps ∈ pss, ∀ w ∈ ps, WdC w) → ((pss.map tx).map (·.length)).sum ≤ 13 * pss.flatten.length
  | [], _ => by simp
  | ps :: r, h => by
    have h1 := sum_tx r fun x m => h x (List.mem_cons_of_mem _ m)
    have h2 := tx_len12 (h ps List.mem_cons_self)
    rw [List.map_cons, List.map_cons, List.sum_cons, List.flatten_cons, List.length_append]
    omega
theorem len_flat : ∀ pss : List (List Str), (∀ ps ∈ pss, ps ≠ []) → pss.length ≤ pss.flatten.length
  | [], _ => by simp
  | ps :: r, h => by
    have h1 := len_flat r fun x m => h x (List.mem_cons_of_mem _ m)
    have h2 := List.length_pos_iff.mpr (h ps List.mem_cons_self)
    rw [List.flatten_cons, List.length_append, List.length_cons]
    omega
theorem pcs_ne {os : List (Str × Bool)} {us : List (Str × Int)} {rs : List (Str × List St)} : ∀ ps ∈ pcs os us rs, ps ≠ [] := fun ps m => by
  rcases List.mem_append.mp m with m | m
  · rcases List.mem_append.mp m with m | m
    · obtain ⟨x, _, rfl⟩ := List.mem_map.mp m
      exact fun z => by cases z
    · obtain ⟨x, _, rfl⟩ := List.mem_map.mp m
      exact fun z => by cases z
  · obtain ⟨x, _, rfl⟩ := List.mem_map.mp m
    exact fun z => by cases z
theorem pcs_wd {os : List (Str × Bool)} {us : List (Str × Int)} {rs : List (Str × List St)} (h : GOk os us rs) : ∀ ps ∈ pcs os us rs, ∀ w ∈ ps, WdC w := fun ps m w mw => game_wd h w (by
  rw [← pcs_flat]
  exact List.mem_flatten.mpr ⟨ps, m, mw⟩)
theorem pcs_len {os : List (Str × Bool)} {us : List (Str × Int)} {rs : List (Str × List St)} {ps : List Str} (m : ps ∈ pcs os us rs) : ps.length ≤ (gameW os us rs).length := by
  rw [← pcs_flat]
  have : ∀ (pss : List (List Str)), ps ∈ pss → ps.length ≤ pss.flatten.length := by
    intro pss
    induction pss with
    | nil => exact fun z => by cases z
    | cons q r ih =>
      intro z
      rw [List.flatten_cons, List.length_append]
      rcases List.mem_cons.mp z with rfl | z
      · omega
      · have := ih z
        omega
  exact this _ m
/-- rounds, from so many draws and moves to so many -/
def GRt (vs os : List Str) : List (Str × List St) → Nat × Nat → Nat × Nat → Prop
  | [], a, b => b = a
  | q :: r, a, b => ∃ m, GL vs os q.2 a m ∧ lvL q.2 ≤ 8 ∧ GRt vs os r m b
theorem GRt.toGR {vs os : List Str} : ∀ {rs : List (Str × List St)} {a b : Nat × Nat}, GRt vs os rs a b → GR vs os rs a
  | [], _, _, _ => trivial
  | _ :: _, _, _, ⟨m, h1, h2, h3⟩ => ⟨m, h1, h2, GRt.toGR h3⟩
theorem GRt.snoc {vs os : List Str} : ∀ {rs : List (Str × List St)} {q : Str × List St} {a m b : Nat × Nat}, GRt vs os rs a m → GL vs os q.2 m b → lvL q.2 ≤ 8 → GRt vs os (rs ++ [q]) a b
  | [], _, _, _, _, h, g, l => by
    have e : _ = _ := h
    subst e
    exact ⟨_, g, l, rfl⟩
  | _ :: _, _, _, _, _, ⟨m, h1, h2, h3⟩, g, l => ⟨m, h1, h2, GRt.snoc h3 g l⟩


/-! ### an own class with its own == (as in ratio.lean) -/
/-- an operator of an own class: both are its instances -/
def rBin (C : Addr) (sp : Sp) (E : XK) : R2 := fun x y H Q => ∃ a dx fs b dy gs, x = .ref a ∧ y = .ref b ∧ H a = some (.ins C dx fs) ∧ H b = some (.ins C dy gs) ∧ sp [x, y] H Q E
theorem op_cmp {X : Cx} {op : CmpOp} {C g : Addr} {n : Nat} {fd : FuncData} {ps : List Str} {sp : Sp} {E : XK} {CX : CXT} (hop : ∀ a b, compareOp op a b = richCompare op a b) (m : Meth X.K C (PySem.cmpInfo op).2.1 g)
    (F : FnOk X.prog X.w X.K X.mg X.base CX n g fd ps sp) (hr : Room n X.A) (hb : Binds X.K fd ps []) (hx : Passes CX X E) : OpR X (compareOp op) (rBin C sp E) := by
  intro pins s σ H x y v u Q I rx ry h
  obtain ⟨a, dx, fs, b, dy, gs, rfl, rfl, ha, hb', q⟩ := h
  cases (show v = Value.ref a from rx)
  cases (show u = Value.ref b from ry)
  obtain ⟨mA, O, _⟩ := ins_get I.hok ha
  obtain ⟨od, J, _⟩ := O.look
  obtain ⟨mA', O', _⟩ := ins_get I.hok hb'
  obtain ⟨od', J', _⟩ := O'.look
  obtain ⟨mm, hF⟩ := I.fr
  rw [hop]
  refine PySem.W.cmp_K (op := op) (tb := .ref C) hr.units0 hF I.ok.mod.kin J J'.type (by unfold PySem.W.notFirst; simp) m.at_ m.fn ?_
  refine wpAny_mono (run_fn (vs := [.ref a, .ref b]) (dvs := []) (ds := []) F hr hb .nil hx I (.cons rfl (.cons rfl .nil)) q) (fun w s' z => ?_) fun _ _ x => x
  obtain ⟨z', H', I', rz, qz⟩ := z
  exact SlX.cmpback rz ⟨z', H', I', rz, qz⟩


/-! ### words that end, or go wrong, at a place -/
/-- a word that fits nowhere -/
def Odd (x : Str) : Prop := x ∉ kwL ∧ x ∉ opL ∧ numOf x = none ∧ ¬ NameP x
def OddAt (ws : List Str) (n : Nat) : Prop := ∀ x, ws[n]? = some x → Odd x
/-- these words stand at i, as far as n -/
def SubN (ws : List Str) (n i : Nat) (xs : List Str) : Prop := ∀ (j : Nat) (x : Str), i + j < n → xs[j]? = some x → ws[i + j]? = some x
theorem SubN.head {ws : List Str} {n i : Nat} {x : Str} {xs : List Str} (h : SubN ws n i (x :: xs)) (l : i < n) : ws[i]? = some x := h 0 x l rfl
theorem SubN.tail {ws : List Str} {n i : Nat} {x : Str} {xs : List Str} (h : SubN ws n i (x :: xs)) : SubN ws n (i + 1) xs := fun j y l e => by
  have := h (j + 1) y (by omega) (by rw [List.getElem?_cons_succ]; exact e)
  rw [show i + 1 + j = i + (j + 1) by omega]
  exact this
theorem SubN.left {ws : List Str} {n i : Nat} {xs ys : List Str} (h : SubN ws n i (xs ++ ys)) : SubN ws n i xs := fun j y l e => h j y l (by
  rw [List.getElem?_append_left (List.getElem?_eq_some_iff.mp e).1]
  exact e)
theorem SubN.right {ws : List Str} {n i : Nat} {xs ys : List Str} (h : SubN ws n i (xs ++ ys)) : SubN ws n (i + xs.length) ys := fun j y l e => by
  have := h (xs.length + j) y (by omega) (by rw [List.getElem?_append_right (by omega), Nat.add_sub_cancel_left]; exact e)
  rw [Nat.add_assoc]
  exact this
theorem SubN.full {ws : List Str} {n i : Nat} {xs : List Str} (h : SubN ws n i xs) (l : i + xs.length ≤ n) : SubAt ws i xs := fun j x e => h j x (by have := (List.getElem?_eq_some_iff.mp e).1; omega) e
theorem odd_open {x : Str} (h : Odd x) : x ∉ openAll := fun m => by
  rcases List.mem_append.mp m with m | m
  · exact h.1 (by
      have : (["long", "view", "pick"] : List Str).all (fun s => decide (s ∈ kwL)) = true := by decide +kernel
      exact of_decide_eq_true (List.all_eq_true.mp this x m))
  · exact h.2.1 m
theorem odd_nm {x : Str} (h : Odd x) {ns : List Str} (hn : ∀ y ∈ ns, Nm y) : x ∉ ns := fun m => h.2.2.2 (nm_key (hn x m))
theorem odd_kw {x k : Str} (h : Odd x) (m : k ∈ kwL) : x ≠ k := fun e => h.1 (e ▸ m)
theorem odd_ne {ws : List Str} {n : Nat} {k : Str} (h : OddAt ws n) (m : k ∈ kwL) : ws[n]? ≠ some k := fun e => odd_kw (h k e) m rfl
theorem odd_read {c : CuI} {n : Nat} (hv : ∀ x ∈ c.vars, Nm x) (od : OddAt c.ws n) : ∀ room, readM c room n = .bad n
  | 0 => rfl
  | k + 1 => by
    unfold readM
    cases e : c.ws[n]? with
    | none => rfl
    | some x =>
      have ox := od x e
      show (if x ∈ c.vars then _ else if x ∈ opens c.se (!c.ops.isEmpty) (k + 1) then _ else match numOf x with
        | some n' => RdR.ok (.num n') (n + 1)
        | none => .bad n) = _
      rw [if_neg (odd_nm ox hv), if_neg (fun z => odd_open ox (opens_all z)), ox.2.2.1]
theorem cutE {c : CuI} {n : Nat} (hv : ∀ x ∈ c.vars, Nm x) (ho : ∀ x ∈ c.ops, Nm x) (se : c.se = false) (od : OddAt c.ws n) : ∀ (e : Ex) (room i : Nat), e.Wf c.vars c.ops → e.Se c.se → e.deep ≤ room → SubN c.ws n i e.words → i ≤ n → n < i + e.words.length → readM c room i = .bad n := by
  have go : ∀ {s : Str} {k i : Nat}, c.ws[i]? = some s → s ∈ openAll → s ∈ opens c.se (!c.ops.isEmpty) (k + 1) → readM c (k + 1) i = partsR c (readM c k) s (i + 1) := fun {s k i} e m o => by
    unfold readM
    rw [e]
    show (if s ∈ c.vars then _ else if s ∈ opens c.se (!c.ops.isEmpty) (k + 1) then _ else _) = _
    rw [if_neg (fun z => nm_open (hv _ z) m), if_pos o]
  intro e
  induction e with
  | num m =>
    intro room i _ _ _ _ l1 l2
    have : i = n := by
      have l3 : n < i + 1 := l2
      omega
    subst this
    exact odd_read hv od room
  | var x =>
    intro room i _ _ _ _ l1 l2
    have : i = n := by
      have l3 : n < i + 1 := l2
      omega
    subst this
    exact odd_read hv od room
  | long =>
    intro room i _ h
    exact Bool.noConfusion (se.symm.trans h)
  | view e _ =>
    intro room i _ h
    exact Bool.noConfusion (se.symm.trans h.1)
  | pick x a b iha ihb =>
    intro room i w h d sub l1 l2
    have d' : max a.deep b.deep + 1 ≤ room := d
    have da := deep_posR a
    obtain ⟨k, rfl⟩ : ∃ k, room = k + 2 := ⟨room - 2, by omega⟩
    by_cases z : i = n
    · subst z
      exact odd_read hv od _
    have l2' : n < i + ((a.words ++ b.words).length + 1 + 1) := l2
    rw [List.length_append] at l2'
    have sub' : SubN c.ws n i ("pick" :: x :: (a.words ++ b.words)) := sub
    have e0 := sub'.head (by omega)
    have s1 := sub'.tail
    obtain ⟨o1, o3, o4⟩ : ("pick" : Str) ∈ openAll ∧ ("pick" : Str) ≠ "long" ∧ ("pick" : Str) ≠ "view" := by decide +kernel
    rw [go e0 o1 (opens_in (.inr (.inl ⟨ops_in w.1, rfl⟩)))]
    unfold partsR
    rw [if_neg o3, if_neg o4, if_pos rfl]
    by_cases z1 : i + 1 = n
    · subst z1
      cases e1 : c.ws[i + 1]? with
      | none => rfl
      | some y =>
        show (if y ∈ c.ops then _ else _) = _
        rw [if_neg (odd_nm (od y e1) ho)]
    have e1 := s1.head (by omega)
    rw [e1]
    show (if x ∈ c.ops then twoR (.pick x) (readM c (k + 1)) (i + 1 + 1) else _) = _
    rw [if_pos w.1]
    have s2 := s1.tail
    unfold twoR
    by_cases za : n < i + 1 + 1 + a.words.length
    · rw [iha (k + 1) (i + 1 + 1) w.2.1 h.1 (by omega) s2.left (by omega) za]
    · rw [read_e hv w.2.1 h.1 (by omega) (s2.left.full (by omega))]
      show (match readM c (k + 1) (i + 1 + 1 + a.words.length) with
        | .bad j' => RdR.bad j'
        | .ok b j' => .ok (.pick x a b) j') = _
      rw [ihb (k + 1) _ w.2.2 h.2 (by omega) s2.right (by omega) (by omega)]
  | op s a b iha ihb =>
    intro room i w h d sub l1 l2
    have d' : max a.deep b.deep + 1 ≤ room := d
    have da := deep_posR a
    obtain ⟨k, rfl⟩ : ∃ k, room = k + 2 := ⟨room - 2, by omega⟩
    by_cases z : i = n
    · subst z
      exact odd_read hv od _
    have l2' : n < i + ((a.words ++ b.words).length + 1) := l2
    rw [List.length_append] at l2'
    have sub' : SubN c.ws n i (s :: (a.words ++ b.words)) := sub
    have e0 := sub'.head (by omega)
    have s1 := sub'.tail
    obtain ⟨o1, o3, o4, o5⟩ := ops_kind w.1
    rw [go e0 o1 (opens_in (.inl w.1))]
    unfold partsR
    rw [if_neg o3, if_neg o4, if_neg o5]
    unfold twoR
    by_cases za : n < i + 1 + a.words.length
    · rw [iha (k + 1) (i + 1) w.2.1 h.1 (by omega) s1.left (by omega) za]
    · rw [read_e hv w.2.1 h.1 (by omega) (s1.left.full (by omega))]
      show (match readM c (k + 1) (i + 1 + a.words.length) with
        | .bad j' => RdR.bad j'
        | .ok b j' => .ok (.op s a b) j') = _
      rw [ihb (k + 1) _ w.2.2 h.2 (by omega) s1.right (by omega) (by omega)]
/-- what a block comes to whose words go wrong at n -/
def CutB (r : BkR) (n : Nat) : Prop := r = .bad n ∨ ∃ ss b, r = .ok ss n b
def CB (c : CuI) (n l : Nat) (g : Nat → Nat × Nat → BkR) : Prop := ∀ (ss : List St) (i : Nat) (a b : Nat × Nat), GL c.vars c.ops ss a b → lvL ss ≤ l → SubN c.ws n i (blockW ss) → i ≤ n → n ≤ i + (blockW ss).length → CutB (g i a) n
theorem end_bad {c : CuI} {s : St} {n : Nat} {st : Nat × Nat} (od : OddAt c.ws n) : endM c s n st = .bad n := by
  unfold endM
  rw [if_neg (odd_ne od (by decide +kernel))]
theorem cut_branch {c : CuI} {n l : Nat} {g : Nat → Nat × Nat → BkR} (od : OddAt c.ws n) (hg : RB c l g) (hc : CB c n l g) (mk : List St → List St → St) {t f : List St} {i : Nat} {a m b : Nat × Nat} (gt : GL c.vars c.ops t a m) (gf : GL c.vars c.ops f m b) (lt : lvL t ≤ l) (lf : lvL f ≤ l) (sub : SubN c.ws n i (branchW t f)) (l1 : i ≤ n) (l2 : n < i + (branchW t f).length) :
    branchM c g mk i a = .bad n := by
  have lb : (branchW t f).length = (blockW t).length + ((if f = [] then [] else (("else" : Str) :: blockW f)).length + 1) := by
    unfold branchW
    rw [List.length_append, List.length_append]
    rfl
  have s1 := sub.left
  have s2 := sub.right
  unfold branchM
  by_cases z : n ≤ i + (blockW t).length
  · rcases hc t i a m gt lt s1 l1 z with h | ⟨ss, st, h⟩
    · rw [h]
    · rw [h]
      show (if c.ws[n]? = some ("else" : Str) then _ else endM c (mk ss []) n st) = _
      rw [if_neg (odd_ne od (by decide +kernel)), end_bad od]
  · cases f with
    | nil =>
      rw [if_pos rfl] at lb
      have : (([] : List Str)).length = 0 := rfl
      omega
    | cons s r =>
      rw [if_neg (fun z => by cases z), List.length_cons] at lb
      have s2' : SubN c.ws n (i + (blockW t).length) (("else" : Str) :: (blockW (s :: r) ++ (["end"] : List Str))) := s2
      have e := s2'.head (by omega)
      rw [hg t i a m gt lt (s1.full (by omega)) fun x h => by rw [e] at h; exact .inr (Option.some.inj h).symm]
      show (if c.ws[i + (blockW t).length]? = some ("else" : Str) then (match g (i + (blockW t).length + 1) m with
        | .bad j' => StR.bad j'
        | .ok f j' st2 => if f = [] then .bad j' else endM c (mk t f) j' st2) else _) = _
      rw [if_pos e]
      rcases hc (s :: r) (i + (blockW t).length + 1) m b gf lf s2'.tail.left (by omega) (by omega) with h | ⟨ss, st, h⟩
      · rw [h]
      · rw [h]
        show (if ss = [] then StR.bad n else endM c (mk t ss) n st) = _
        split
        · rfl
        · exact end_bad od
theorem odd_name {ws l : List Str} {n : Nat} (h : ∀ x, ws[n]? = some x → x ∉ l) : nameM ws l n = none := by
  unfold nameM
  cases e : ws[n]? with
  | none => rfl
  | some x =>
    show (if x ∈ l then some x else none) = _
    rw [if_neg (h x e)]
theorem odd_num {ws : List Str} {lo hi n : Nat} (od : OddAt ws n) : numM ws lo hi n = none := by
  unfold numM
  cases e : ws[n]? with
  | none => rfl
  | some x =>
    show (match numOf x with
      | some n => if lo ≤ n ∧ n ≤ hi then some n else none
      | none => none) = _
    rw [(od x e).2.2.1]
theorem cut_expr {c : CuI} {n : Nat} (hv : ∀ x ∈ c.vars, Nm x) (ho : ∀ x ∈ c.ops, Nm x) (se : c.se = false) (od : OddAt c.ws n) (mk : Ex → St) {e : Ex} {i : Nat} {st : Nat × Nat} (g : EGd c.vars c.ops e) (sub : SubN c.ws n i e.words) (l1 : i ≤ n) (l2 : n < i + e.words.length) : exprM c mk i st = .bad n := by
  unfold exprM
  rw [cutE hv ho se od e 12 i g.1 (by rw [se]; exact g.2.2) g.2.1 sub l1 l2]
theorem seatL_kw : ∀ x ∈ seatL, x ∈ kwL := by
  have : seatL.all (fun s => decide (s ∈ kwL)) = true := by decide +kernel
  exact fun x m => of_decide_eq_true (List.all_eq_true.mp this x m)
theorem cut_stmt {c : CuI} {g : Nat → Nat × Nat → BkR} {lvl n : Nat} (hv : ∀ x ∈ c.vars, Nm x) (ho : ∀ x ∈ c.ops, Nm x) (se : c.se = false) (od : OddAt c.ws n) (hg : ∀ l, lvl = l + 1 → RB c l g ∧ CB c n l g) {s : St} {i : Nat} {a b : Nat × Nat} (G : s.G c.vars c.ops a b) (hl : s.lv ≤ lvl) (sub : SubN c.ws n i s.words) (l1 : i < n) (l2 : n < i + s.words.length) :
    wd0 s ∈ opensB c lvl a ∧ c.ws[i]? = some (wd0 s) ∧ stmtM c g (wd0 s) (i + 1) a = .bad n := by
  have e0 : c.ws[i]? = some (wd0 s) := by
    obtain ⟨r, e⟩ := words_hd s
    rw [e] at sub
    exact sub.head l1
  obtain ⟨k1, k2, k3, k4, k5, k6, k7, k8, k9, k10, k11, k12, k13, k14, k15, k16, k17, k18, k19, k20⟩ : ("when" : Str) ≠ "if" ∧ ("show" : Str) ≠ "if" ∧ ("show" : Str) ≠ "when" ∧ ("set" : Str) ≠ "if" ∧ ("set" : Str) ≠ "when" ∧ ("set" : Str) ≠ "show" ∧ ("draw" : Str) ≠ "if" ∧ ("draw" : Str) ≠ "when" ∧ ("draw" : Str) ≠ "show" ∧ ("draw" : Str) ≠ "set" ∧ ("pay" : Str) ≠ "if" ∧ ("pay" : Str) ≠ "when" ∧ ("pay" : Str) ≠ "show" ∧ ("pay" : Str) ≠ "set" ∧ ("pay" : Str) ∉ (["draw", "first", "second"] : List Str) ∧
    ("take" : Str) ≠ "if" ∧ ("take" : Str) ≠ "when" ∧ ("take" : Str) ≠ "show" ∧ ("take" : Str) ≠ "set" ∧ ("take" : Str) ∉ (["draw", "first", "second"] : List Str) := by decide +kernel
  refine ⟨?_, e0, ?_⟩
  · cases s with
    | set x e => exact opB_set G.1
    | ite e t f => exact opB_if (by have : max (lvL t) (lvL f) + 1 ≤ lvl := hl; omega)
    | whn o t f => exact opB_when (by have : max (lvL t) (lvL f) + 1 ≤ lvl := hl; omega) G.1
    | draw x n => exact opB_draw G.1 G.2.2.1 List.mem_cons_self
    | move p x n k => exact opB_draw G.2.1 G.2.2.2.2.1 (seat_facts p G.1).2.2.1
    | «show» p e => exact opB_base List.mem_cons_self
    | pay s e =>
      refine opB_base ?_
      show s ∈ (["show", "pay", "take"] : List Str)
      rcases G.1 with rfl | rfl <;> decide +kernel
  · unfold stmtM
    cases s with
    | set x e =>
      obtain ⟨m, ge, rfl⟩ := G
      have l2' : n < i + (e.words.length + 1 + 1) := l2
      have s1 := SubN.tail sub
      show (if ("set" : Str) = "if" then _ else if ("set" : Str) = "when" then _ else if ("set" : Str) = "show" then _ else if ("set" : Str) = "set" then (match nameM c.ws c.vars (i + 1) with
        | none => StR.bad (i + 1)
        | some y => exprM c (.set y) (i + 1 + 1) b) else _) = _
      rw [if_neg k4, if_neg k5, if_neg k6, if_pos rfl]
      by_cases z : i + 1 = n
      · subst z
        rw [odd_name fun x e => odd_nm (od x e) hv]
      · rw [nameM_is (s1.head (by omega)) m]
        exact cut_expr hv ho se od (.set x) ge s1.tail (by omega) (by omega)
    | ite e t f =>
      obtain ⟨ge, m, gt, gf⟩ := G
      have hl' : max (lvL t) (lvL f) + 1 ≤ lvl := hl
      obtain ⟨l, rfl⟩ : ∃ l, lvl = l + 1 := ⟨lvl - 1, by omega⟩
      have l2' : n < i + ((e.words ++ branchW t f).length + 1) := l2
      rw [List.length_append] at l2'
      have s1 : SubN c.ws n (i + 1) (e.words ++ branchW t f) := SubN.tail sub
      show (if ("if" : Str) = "if" then (match readM c 12 (i + 1) with
        | .bad j => StR.bad j
        | .ok e j => branchM c g (.ite e) j a) else _) = _
      rw [if_pos rfl]
      by_cases z : n < i + 1 + e.words.length
      · rw [cutE hv ho se od e 12 (i + 1) ge.1 (by rw [se]; exact ge.2.2) ge.2.1 s1.left (by omega) z]
      · rw [read_e hv ge.1 (by rw [se]; exact ge.2.2) ge.2.1 (s1.left.full (by omega))]
        exact cut_branch od (hg l rfl).1 (hg l rfl).2 (.ite e) gt gf (by omega) (by omega) s1.right (by omega) (by omega)
    | whn o t f =>
      obtain ⟨mo, m, gt, gf⟩ := G
      have hl' : max (lvL t) (lvL f) + 1 ≤ lvl := hl
      obtain ⟨l, rfl⟩ : ∃ l, lvl = l + 1 := ⟨lvl - 1, by omega⟩
      have l2' : n < i + ((branchW t f).length + 1 + 1) := l2
      have s1 : SubN c.ws n (i + 1) (o :: branchW t f) := SubN.tail sub
      show (if ("when" : Str) = "if" then _ else if ("when" : Str) = "when" then (match nameM c.ws c.ops (i + 1) with
        | none => StR.bad (i + 1)
        | some o => branchM c g (.whn o) (i + 1 + 1) a) else _) = _
      rw [if_neg k1, if_pos rfl]
      by_cases z : i + 1 = n
      · subst z
        rw [odd_name fun x e => odd_nm (od x e) ho]
      · rw [nameM_is (s1.head (by omega)) mo]
        exact cut_branch od (hg l rfl).1 (hg l rfl).2 (.whn o) gt gf (by omega) (by omega) s1.tail (by omega) (by omega)
    | draw x k =>
      obtain ⟨m, ⟨n1, n2⟩, h24, rfl⟩ := G
      have l2' : n < i + 3 := l2
      have s1 := SubN.tail sub
      show (if ("draw" : Str) = "if" then _ else if ("draw" : Str) = "when" then _ else if ("draw" : Str) = "show" then _ else if ("draw" : Str) = "set" then _ else if ("draw" : Str) ∈ (["draw", "first", "second"] : List Str) then choiceM c "draw" (i + 1) a else _) = _
      rw [if_neg k7, if_neg k8, if_neg k9, if_neg k10, if_pos List.mem_cons_self]
      unfold choiceM
      by_cases z : i + 1 = n
      · subst z
        rw [odd_name fun x e => odd_nm (od x e) hv]
      · have z2 : i + 1 + 1 = n := by omega
        rw [nameM_is (s1.head (by omega)) m]
        show (if ("draw" : Str) = "draw" then (match numM c.ws 1 64 (i + 1 + 1) with
          | none => StR.bad (i + 1 + 1)
          | some n => .ok (.draw x n) (i + 1 + 2) (a.1 + 1, a.2)) else _) = _
        rw [if_pos rfl, z2, odd_num od]
    | move p x k kk =>
      obtain ⟨hp, m, ⟨n1, n2⟩, rfl, h24, rfl⟩ := G
      obtain ⟨f1, f2, f3, f4, f5, f6, f7⟩ := seat_facts p hp
      have l2' : n < i + 3 := l2
      have s1 := SubN.tail sub
      show (if seatS p = "if" then _ else if seatS p = "when" then _ else if seatS p = "show" then _ else if seatS p = "set" then _ else if seatS p ∈ (["draw", "first", "second"] : List Str) then choiceM c (seatS p) (i + 1) a else _) = _
      rw [if_neg f4, if_neg f5, if_neg f6, if_neg f7, if_pos f3]
      unfold choiceM
      by_cases z : i + 1 = n
      · subst z
        rw [odd_name fun x e => odd_nm (od x e) hv]
      · have z2 : i + 1 + 1 = n := by omega
        rw [nameM_is (s1.head (by omega)) m]
        show (if seatS p = "draw" then _ else (match numM c.ws 1 8 (i + 1 + 1) with
          | none => StR.bad (i + 1 + 1)
          | some n => .ok (.move (seatN (seatS p)) x n a.2) (i + 1 + 2) (a.1, a.2 + 1))) = _
        rw [if_neg f2, z2, odd_num od]
    | «show» p e =>
      obtain ⟨hp, ge, rfl⟩ := G
      obtain ⟨f1, f2⟩ := seat_in hp
      have l2' : n < i + (e.words.length + 1 + 1) := l2
      have s1 := SubN.tail sub
      show (if ("show" : Str) = "if" then _ else if ("show" : Str) = "when" then _ else if ("show" : Str) = "show" then (match nameM c.ws seatL (i + 1) with
        | none => StR.bad (i + 1)
        | some s => exprM c (.show (seatN s)) (i + 1 + 1) b) else _) = _
      rw [if_neg k2, if_neg k3, if_pos rfl]
      by_cases z : i + 1 = n
      · subst z
        rw [odd_name fun x e m => (od x e).1 (seatL_kw x m)]
      · rw [nameM_is (s1.head (by omega)) f1]
        exact cut_expr hv ho se od (.show (seatN (seatS p))) ge s1.tail (by omega) (by omega)
    | pay s e =>
      obtain ⟨hs, ge, rfl⟩ := G
      have l2' : n < i + (e.words.length + 1) := l2
      have s1 := SubN.tail sub
      show (if s = "if" then _ else if s = "when" then _ else if s = "show" then _ else if s = "set" then _ else if s ∈ (["draw", "first", "second"] : List Str) then _ else exprM c (.pay s) (i + 1) b) = _
      have z : s ≠ "if" ∧ s ≠ "when" ∧ s ≠ "show" ∧ s ≠ "set" ∧ s ∉ (["draw", "first", "second"] : List Str) := by
        rcases hs with rfl | rfl
        · exact ⟨k11, k12, k13, k14, k15⟩
        · exact ⟨k16, k17, k18, k19, k20⟩
      rw [if_neg z.1, if_neg z.2.1, if_neg z.2.2.1, if_neg z.2.2.2.1, if_neg z.2.2.2.2]
      exact cut_expr hv ho se od (.pay s) ge s1 (by omega) (by omega)
theorem opB_kw {c : CuI} {lvl : Nat} {st : Nat × Nat} {x : Str} (m : x ∈ opensB c lvl st) : x ∈ kwL := by
  have all : x ∈ (["show", "pay", "take", "if", "when", "set", "draw", "first", "second"] : List Str) := by
    rcases List.mem_append.mp m with m | m
    · rcases List.mem_append.mp m with m | m
      · simp only [List.mem_cons, List.not_mem_nil, or_false] at m ⊢
        rcases m with m | m | m <;> simp [m]
      · split at m
        · rcases List.mem_append.mp m with m | m
          · rw [List.mem_singleton.mp m]; simp
          · split at m
            · rw [List.mem_singleton.mp m]; simp
            · cases m
        · cases m
    · split at m
      · rcases List.mem_append.mp m with m | m
        · rw [List.mem_singleton.mp m]; simp
        · split at m
          · simp only [List.mem_cons, List.not_mem_nil, or_false] at m ⊢
            rcases m with m | m | m <;> simp [m]
          · cases m
      · cases m
  have : (["show", "pay", "take", "if", "when", "set", "draw", "first", "second"] : List Str).all (fun s => decide (s ∈ kwL)) = true := by decide +kernel
  exact of_decide_eq_true (List.all_eq_true.mp this x all)
theorem odd_head {c : CuI} {g : Nat → Nat × Nat → BkR} {lvl n : Nat} {a : Nat × Nat} (od : OddAt c.ws n) : headM c lvl g n a = none := by
  unfold headM
  cases w : c.ws[n]? with
  | none => rfl
  | some x =>
    show (if x ∈ opensB c lvl a then _ else none) = _
    rw [if_neg fun m => (od x w).1 (opB_kw m)]
theorem cut_loop {c : CuI} {g : Nat → Nat × Nat → BkR} {lvl n : Nat} (hv : ∀ x ∈ c.vars, Nm x) (ho : ∀ x ∈ c.ops, Nm x) (se : c.se = false) (od : OddAt c.ws n) (hg : ∀ l, lvl = l + 1 → RB c l g ∧ CB c n l g) : ∀ (ss : List St) (f i : Nat) (a b : Nat × Nat), GL c.vars c.ops ss a b → lvL ss ≤ lvl → SubN c.ws n i (blockW ss) → i ≤ n → n ≤ i + (blockW ss).length → n < i + f →
    CutB (loopM (headM c lvl g) f i a) n
  | ss, 0, i, a, b, G, _, _, l1, l2, l3 => by omega
  | [], f + 1, i, a, b, G, _, _, l1, l2, _ => by
    have : i = n := by
      have : (blockW []).length = 0 := rfl
      omega
    subst this
    refine .inr ⟨[], a, ?_⟩
    unfold loopM
    rw [odd_head od]
  | s :: r, f + 1, i, a, b, ⟨m, G1, G2⟩, hl, sub, l1, l2, l3 => by
    have hl' : max s.lv (lvL r) ≤ lvl := hl
    have bl : (blockW (s :: r)).length = s.words.length + (blockW r).length := by
      show (s.words ++ blockW r).length = _
      rw [List.length_append]
    have sub' : SubN c.ws n i (s.words ++ blockW r) := sub
    have sp : 0 < s.words.length := by
      obtain ⟨u, e⟩ := words_hd s
      rw [e, List.length_cons]
      omega
    by_cases z : i = n
    · subst z
      refine .inr ⟨[], a, ?_⟩
      unfold loopM
      rw [odd_head od]
    by_cases z2 : n < i + s.words.length
    · obtain ⟨h1, h2, h3⟩ := cut_stmt hv ho se od hg G1 (by omega) sub'.left (by omega) z2
      have hh : headM c lvl g i a = some (.bad n) := by
        unfold headM
        rw [h2]
        show (if wd0 s ∈ opensB c lvl a then some (stmtM c g (wd0 s) (i + 1) a) else none) = _
        rw [if_pos h1, h3]
      refine .inl ?_
      unfold loopM
      rw [hh]
    · obtain ⟨h1, h2, h3⟩ := stmt_back hv se (fun l e => (hg l e).1) G1 (by omega) (sub'.left.full (by omega))
      have hh : headM c lvl g i a = some (.ok s (i + s.words.length) m) := by
        unfold headM
        rw [h2]
        show (if wd0 s ∈ opensB c lvl a then some (stmtM c g (wd0 s) (i + 1) a) else none) = _
        rw [if_pos h1, h3]
      have ih := cut_loop hv ho se od hg r f (i + s.words.length) m b G2 (by omega) sub'.right (by omega) (by omega) (by omega)
      unfold loopM
      rw [hh]
      show CutB (match loopM (headM c lvl g) f (i + s.words.length) m with
        | .bad j' => BkR.bad j'
        | .ok ss j' st'' => .ok (s :: ss) j' st'') n
      rcases ih with h | ⟨ss, st, h⟩
      · rw [h]
        exact .inl rfl
      · rw [h]
        exact .inr ⟨_, _, rfl⟩
theorem cut_block {c : CuI} {n : Nat} (hv : ∀ x ∈ c.vars, Nm x) (ho : ∀ x ∈ c.ops, Nm x) (se : c.se = false) (od : OddAt c.ws n) (hn : n ≤ c.ws.length) : ∀ l, CB c n l (blockM c l)
  | 0 => fun ss i a b G hl sub l1 l2 => by
    unfold blockM
    exact cut_loop hv ho se od (fun l z => by omega) ss _ i a b G hl sub l1 l2 (by omega)
  | l + 1 => fun ss i a b G hl sub l1 l2 => by
    unfold blockM
    exact cut_loop hv ho se od (fun k z => by cases z; exact ⟨block_back hv se l, cut_block hv ho se od hn l⟩) ss _ i a b G hl sub l1 l2 (by omega)
open Classical in
theorem odd_fresh {ws ns : List Str} {n : Nat} (od : OddAt ws n) : freshM ws ns n = none := by
  unfold freshM
  cases e : ws[n]? with
  | none => rfl
  | some x =>
    show (if NameP x ∧ x ∉ ns then some x else none) = _
    rw [if_neg fun z => (od x e).2.2.2 z.1]
theorem cut_opts {ws : List Str} {n : Nat} (od : OddAt ws n) : ∀ (os : List (Str × Bool)) (f : Nat) (acc : List (Str × Bool)) (i : Nat), SubN ws n i (fl optW os) → NewL (acc.map (·.1)) (os.map (·.1)) → acc.length + os.length ≤ 6 → os.length < f → i ≤ n → n ≤ i + (fl optW os).length →
    optsM ws f acc i = .bad n ∨ ∃ k, k ≤ os.length ∧ n = i + (fl optW (os.take k)).length ∧ optsM ws f acc i = .ok (acc ++ os.take k) n
  | os, 0, acc, i, _, _, _, h, _, _ => absurd h (Nat.not_lt_zero _)
  | [], f + 1, acc, i, _, _, _, _, l1, l2 => by
    have : i = n := by
      have : (fl optW []).length = 0 := rfl
      omega
    subst this
    refine .inr ⟨0, Nat.zero_le _, rfl, ?_⟩
    unfold optsM
    rw [if_neg fun z => odd_ne od (by decide +kernel) z.1]
    show HdR.ok acc i = .ok (acc ++ []) i
    rw [List.append_nil]
  | q :: os, f + 1, acc, i, sub, nl, l6, h, l1, l2 => by
    rw [List.length_cons] at h l6
    have s0 : SubN ws n i ("option" :: q.1 :: onS q.2 :: fl optW os) := sub
    have ll : (fl optW (q :: os)).length = (fl optW os).length + 3 := rfl
    by_cases z : i = n
    · subst z
      refine .inr ⟨0, Nat.zero_le _, rfl, ?_⟩
      unfold optsM
      rw [if_neg fun z => odd_ne od (by decide +kernel) z.1]
      show HdR.ok acc i = .ok (acc ++ []) i
      rw [List.append_nil]
    have e0 := s0.head (by omega)
    unfold optsM
    rw [if_pos ⟨e0, by omega⟩]
    by_cases z1 : i + 1 = n
    · subst z1
      rw [odd_fresh od]
      exact .inl rfl
    have e1 := s0.tail.head (by omega)
    rw [fresh_is e1 nl.hd]
    show (match nameM ws ["on", "off"] (i + 1 + 1) with
      | none => HdR.bad (i + 2)
      | some y => optsM ws f (acc ++ [(q.1, decide (y = "on"))]) (i + 3)) = _ ∨ ∃ k, _ ∧ _ ∧ (match nameM ws ["on", "off"] (i + 1 + 1) with
      | none => HdR.bad (i + 2)
      | some y => optsM ws f (acc ++ [(q.1, decide (y = "on"))]) (i + 3)) = _
    by_cases z2 : i + 1 + 1 = n
    · subst z2
      rw [odd_name fun x e m => (od x e).1 (by
        have : (["on", "off"] : List Str).all (fun s => decide (s ∈ kwL)) = true := by decide +kernel
        exact of_decide_eq_true (List.all_eq_true.mp this x m))]
      exact .inl rfl
    have e2 := s0.tail.tail.head (by omega)
    have s3 := s0.tail.tail.tail
    obtain ⟨o1, o2⟩ := on_back q.2
    rw [nameM_is e2 o1]
    show optsM ws f (acc ++ [(q.1, decide (onS q.2 = "on"))]) (i + 3) = _ ∨ ∃ k, _ ∧ _ ∧ optsM ws f (acc ++ [(q.1, decide (onS q.2 = "on"))]) (i + 3) = _
    rw [o2]
    rcases cut_opts od os f (acc ++ [q]) (i + 3) s3 (by rw [List.map_append]; exact nl.tl) (by rw [List.length_append]; show acc.length + 1 + os.length ≤ 6; omega) (by omega) (by omega) (by omega) with h | ⟨k, hk, hn, h⟩
    · exact .inl h
    · refine .inr ⟨k + 1, by rw [List.length_cons]; omega, ?_, ?_⟩
      · rw [hn]
        show _ = i + ((fl optW (os.take k)).length + 3)
        omega
      · rw [h, List.append_assoc]
        rfl
theorem cut_vars {ws : List Str} {n : Nat} (od : OddAt ws n) : ∀ (os : List (Str × Int)) (f : Nat) (acc : List (Str × Int)) (i : Nat), SubN ws n i (fl varW os) → NewL (acc.map (·.1)) (os.map (·.1)) → (∀ q ∈ os, 1 ≤ q.2 ∧ q.2 ≤ 65535) → acc.length + os.length ≤ 12 → os.length < f → i ≤ n → n ≤ i + (fl varW os).length →
    varsM ws f acc i = .bad n ∨ ∃ k, k ≤ os.length ∧ n = i + (fl varW (os.take k)).length ∧ varsM ws f acc i = .ok (acc ++ os.take k) n
  | os, 0, acc, i, _, _, _, _, h, _, _ => absurd h (Nat.not_lt_zero _)
  | [], f + 1, acc, i, _, _, _, _, _, l1, l2 => by
    have : i = n := by
      have : (fl varW []).length = 0 := rfl
      omega
    subst this
    refine .inr ⟨0, Nat.zero_le _, rfl, ?_⟩
    unfold varsM
    rw [if_neg fun z => odd_ne od (by decide +kernel) z.1]
    show HdR.ok acc i = .ok (acc ++ []) i
    rw [List.append_nil]
  | q :: os, f + 1, acc, i, sub, nl, hq, l6, h, l1, l2 => by
    rw [List.length_cons] at h l6
    obtain ⟨x, v⟩ := q
    have hn := hq (x, v) List.mem_cons_self
    have hn1 : 1 ≤ v := hn.1
    have hn2 : v ≤ 65535 := hn.2
    obtain ⟨k0, rfl⟩ := Int.eq_ofNat_of_zero_le (show 0 ≤ v by omega)
    have s0 : SubN ws n i ("var" :: x :: numS ((k0 : Nat) : Int) :: fl varW os) := sub
    have ll : (fl varW ((x, ((k0 : Nat) : Int)) :: os)).length = (fl varW os).length + 3 := rfl
    by_cases z : i = n
    · subst z
      refine .inr ⟨0, Nat.zero_le _, rfl, ?_⟩
      unfold varsM
      rw [if_neg fun z => odd_ne od (by decide +kernel) z.1]
      show HdR.ok acc i = .ok (acc ++ []) i
      rw [List.append_nil]
    have e0 := s0.head (by omega)
    unfold varsM
    rw [if_pos ⟨e0, by omega⟩]
    by_cases z1 : i + 1 = n
    · subst z1
      rw [odd_fresh od]
      exact .inl rfl
    have e1 := s0.tail.head (by omega)
    rw [fresh_is e1 nl.hd]
    show (match numM ws 1 65535 (i + 1 + 1) with
      | none => HdR.bad (i + 2)
      | some y => varsM ws f (acc ++ [(x, ((y : Nat) : Int))]) (i + 3)) = _ ∨ ∃ k, _ ∧ _ ∧ (match numM ws 1 65535 (i + 1 + 1) with
      | none => HdR.bad (i + 2)
      | some y => varsM ws f (acc ++ [(x, ((y : Nat) : Int))]) (i + 3)) = _
    by_cases z2 : i + 1 + 1 = n
    · subst z2
      rw [odd_num od]
      exact .inl rfl
    have e2 := s0.tail.tail.head (by omega)
    have s3 := s0.tail.tail.tail
    rw [numM_is e2 (by omega) (by omega)]
    show varsM ws f (acc ++ [(x, ((k0 : Nat) : Int))]) (i + 3) = _ ∨ ∃ k, _ ∧ _ ∧ varsM ws f (acc ++ [(x, ((k0 : Nat) : Int))]) (i + 3) = _
    rcases cut_vars od os f (acc ++ [(x, ((k0 : Nat) : Int))]) (i + 3) s3 (by rw [List.map_append]; exact nl.tl) (fun z m => hq z (List.mem_cons_of_mem _ m)) (by rw [List.length_append]; show acc.length + 1 + os.length ≤ 12; omega) (by omega) (by omega) (by omega) with h | ⟨k, hk, hn, h⟩
    · exact .inl h
    · refine .inr ⟨k + 1, by rw [List.length_cons]; omega, ?_, ?_⟩
      · rw [hn]
        show _ = i + ((fl varW (os.take k)).length + 3)
        omega
      · rw [h, List.append_assoc]
        rfl
theorem cut_rnds {c : CuI} {n : Nat} (hv : ∀ x ∈ c.vars, Nm x) (ho : ∀ x ∈ c.ops, Nm x) (se : c.se = false) (od : OddAt c.ws n) (hn : n ≤ c.ws.length) : ∀ (rs : List (Str × List St)) (f : Nat) (acc : List (Str × List St)) (i : Nat) (a : Nat × Nat), SubN c.ws n i (fl rndW rs) → NewL (acc.map (·.1)) (rs.map (·.1)) → GR c.vars c.ops rs a → acc.length + rs.length ≤ 8 → rs.length < f → i ≤ n → n ≤ i + (fl rndW rs).length →
    rndsM c f acc i a = .bad n ∨ ∃ k, k ≤ rs.length ∧ n = i + (fl rndW (rs.take k)).length ∧ rndsM c f acc i a = .ok (acc ++ rs.take k) n
  | rs, 0, acc, i, a, _, _, _, _, h, _, _ => absurd h (Nat.not_lt_zero _)
  | [], f + 1, acc, i, a, _, _, _, _, _, l1, l2 => by
    have : i = n := by
      have : (fl rndW []).length = 0 := rfl
      omega
    subst this
    refine .inr ⟨0, Nat.zero_le _, rfl, ?_⟩
    unfold rndsM
    rw [if_neg fun z => odd_ne od (by decide +kernel) z.1]
    show HdR.ok acc i = .ok (acc ++ []) i
    rw [List.append_nil]
  | q :: os, f + 1, acc, i, a, sub, nl, ⟨m, g1, g2, g3⟩, l6, h, l1, l2 => by
    rw [List.length_cons] at h l6
    have s0 : SubN c.ws n i ("round" :: q.1 :: ((blockW q.2 ++ (["end"] : List Str)) ++ fl rndW os)) := sub
    have lb1 : (["end"] : List Str).length = 1 := rfl
    have ll : (fl rndW (q :: os)).length = (blockW q.2 ++ (["end"] : List Str)).length + (fl rndW os).length + 2 := by
      show ((blockW q.2 ++ (["end"] : List Str)) ++ fl rndW os).length + 1 + 1 = _
      rw [List.length_append]
    rw [List.length_append] at ll
    by_cases z : i = n
    · subst z
      refine .inr ⟨0, Nat.zero_le _, rfl, ?_⟩
      unfold rndsM
      rw [if_neg fun z => odd_ne od (by decide +kernel) z.1]
      show HdR.ok acc i = .ok (acc ++ []) i
      rw [List.append_nil]
    have e0 := s0.head (by omega)
    unfold rndsM
    rw [if_pos ⟨e0, by omega⟩]
    by_cases z1 : i + 1 = n
    · subst z1
      rw [odd_fresh od]
      exact .inl rfl
    have e1 := s0.tail.head (by omega)
    rw [fresh_is e1 nl.hd]
    show (match blockM c 8 (i + 1 + 1) a with
        | .bad j => HdR.bad j
        | .ok ss j st' => if c.ws[j]? = some ("end" : Str) then rndsM c f (acc ++ [(q.1, ss)]) (j + 1) st' else .bad j) = _ ∨ ∃ k, _ ∧ _ ∧ (match blockM c 8 (i + 1 + 1) a with
        | .bad j => HdR.bad j
        | .ok ss j st' => if c.ws[j]? = some ("end" : Str) then rndsM c f (acc ++ [(q.1, ss)]) (j + 1) st' else .bad j) = _
    have s2 := s0.tail.tail
    by_cases z2 : n ≤ i + 1 + 1 + (blockW q.2).length
    · rcases cut_block hv ho se od hn 8 q.2 (i + 1 + 1) a m g1 g2 s2.left.left (by omega) z2 with h | ⟨ss, st, h⟩
      · rw [h]
        exact .inl rfl
      · rw [h]
        refine .inl ?_
        show (if c.ws[n]? = some ("end" : Str) then _ else HdR.bad n) = _
        rw [if_neg (odd_ne od (by decide +kernel))]
    have e3 : c.ws[i + 1 + 1 + (blockW q.2).length]? = some ("end" : Str) := s2.left.right.head (by omega)
    have s3 := s2.right
    rw [List.length_append] at s3
    rw [block_back hv se 8 q.2 (i + 1 + 1) a m g1 g2 (s2.left.left.full (by omega)) fun x z => by rw [e3] at z; exact .inl (Option.some.inj z).symm]
    show (if c.ws[i + 1 + 1 + (blockW q.2).length]? = some ("end" : Str) then rndsM c f (acc ++ [(q.1, q.2)]) (i + 1 + 1 + (blockW q.2).length + 1) m else _) = _ ∨ ∃ k, _ ∧ _ ∧ (if c.ws[i + 1 + 1 + (blockW q.2).length]? = some ("end" : Str) then rndsM c f (acc ++ [(q.1, q.2)]) (i + 1 + 1 + (blockW q.2).length + 1) m else _) = _
    rw [if_pos e3]
    rcases cut_rnds hv ho se od hn os f (acc ++ [q]) (i + 1 + 1 + (blockW q.2).length + 1) m s3 (by rw [List.map_append]; exact nl.tl) g3 (by rw [List.length_append]; show acc.length + 1 + os.length ≤ 8; omega) (by omega) (by omega) (by omega) with h | ⟨k, hk, hkn, h⟩
    · exact .inl h
    · refine .inr ⟨k + 1, by rw [List.length_cons]; omega, ?_, ?_⟩
      · have l3 : (fl rndW ((q :: os).take (k + 1))).length = (blockW q.2 ++ (["end"] : List Str)).length + (fl rndW (os.take k)).length + 2 := by
          show ((blockW q.2 ++ (["end"] : List Str)) ++ fl rndW (os.take k)).length + 1 + 1 = _
          rw [List.length_append]
        rw [List.length_append] at l3
        omega
      · rw [h, List.append_assoc]
        rfl
theorem take_app {α : Type} (a b : List α) (k : Nat) : (a ++ b).take (a.length + k) = a ++ b.take k := by
  rw [List.take_append, List.take_of_length_le (by omega), Nat.add_sub_cancel_left]
theorem take_app' {α : Type} (a b : List α) {k : Nat} (h : k ≤ a.length) : (a ++ b).take k = a.take k := by
  rw [List.take_append, Nat.sub_eq_zero_of_le h, List.take_zero, List.append_nil]
theorem pcs1 {os : List (Str × Bool)} {us : List (Str × Int)} {rs : List (Str × List St)} {k : Nat} (h : k ≤ os.length) : ((pcs os us rs).take k).flatten = fl optW (os.take k) := by
  unfold pcs fl
  rw [List.append_assoc, take_app' _ _ (by rw [List.length_map]; exact h), List.map_take]
theorem pcs2 {os : List (Str × Bool)} {us : List (Str × Int)} {rs : List (Str × List St)} {k : Nat} (h : k ≤ us.length) : ((pcs os us rs).take (os.length + k)).flatten = fl optW os ++ fl varW (us.take k) := by
  unfold pcs fl
  have e := take_app (os.map optW) (us.map varW ++ rs.map rndW) k
  rw [List.length_map] at e
  rw [List.append_assoc, e, take_app' _ _ (by rw [List.length_map]; exact h), List.flatten_append, List.map_take]
theorem pcs3 {os : List (Str × Bool)} {us : List (Str × Int)} {rs : List (Str × List St)} {k : Nat} : ((pcs os us rs).take (os.length + us.length + k)).flatten = fl optW os ++ (fl varW us ++ fl rndW (rs.take k)) := by
  unfold pcs fl
  have e := take_app (os.map optW ++ us.map varW) (rs.map rndW) k
  rw [List.length_append, List.length_map, List.length_map] at e
  rw [e, List.flatten_append, List.flatten_append, List.map_take, List.append_assoc]
/-- the words are refused at n -/
def RdBad (ws : List Str) (n : Nat) : Prop := ∀ (K : PySem.W.Frag) (C B : Addr) (H : Hp) (Q : VK) (E : XK), (∀ d H', Same H H' → H' d = some (.xd [("at", .int (n : Nat))]) → E (.ref B) (some d) H') → GmK K C B H ws Q E
theorem vars_nil {ws : List Str} {n : Nat} (od : OddAt ws n) : varsM ws 13 [] n = .ok [] n := by
  unfold varsM
  rw [if_neg fun z => odd_ne od (by decide +kernel) z.1]
theorem rnds_nil {c : CuI} {n : Nat} (od : OddAt c.ws n) : rndsM c 9 [] n (0, 0) = .ok [] n := by
  unfold rndsM
  rw [if_neg fun z => odd_ne od (by decide +kernel) z.1]
theorem cutG {os : List (Str × Bool)} {us : List (Str × Int)} {rs : List (Str × List St)} (h : GOk os us rs) {ws : List Str} {n : Nat} (sub : SubN ws n 0 (gameW os us rs)) (od : OddAt ws n) (hn : n ≤ ws.length) (l : n ≤ (gameW os us rs).length) (bd : ws[n]? ≠ none ∨ ∀ k, n ≠ (((pcs os us rs).take k).flatten).length) : RdBad ws n := by
  intro K C B H Q E e
  have gl : (gameW os us rs).length = (fl optW os).length + ((fl varW us).length + (fl rndW rs).length) := by
    unfold gameW
    rw [List.length_append, List.length_append]
  have o6 := h.o6
  have u12 := h.u12
  have r8 := h.r8
  have sb : SubN ws n 0 (fl optW os ++ (fl varW us ++ fl rndW rs)) := sub
  have so := sb.left
  have sv := sb.right.left
  have sr := sb.right.right
  rw [Nat.zero_add] at sv sr
  have fin : ∀ {k : Nat}, n = (((pcs os us rs).take k).flatten).length → ∀ (os' : List (Str × Bool)) (us' : List (Str × Int)) (rs' : List (Str × List St)), (ws[n]? = none → ∀ g H', Same H H' → H g = none → GameS K C H' g os' us' rs' → Q (.ref g) H') ∧ (ws[n]? ≠ none → ∀ d H', Same H H' → H' d = some (.xd [("at", .int (n : Nat))]) → E (.ref B) (some d) H') := fun {k} hk _ _ _ =>
    ⟨fun z => by
      rcases bd with b | b
      · exact absurd z b
      · exact absurd hk (b k), fun _ => e⟩
  obtain ⟨n1, n2, n3⟩ : ("var" : Str) ≠ "option" ∧ ("round" : Str) ≠ "option" ∧ ("round" : Str) ≠ "var" := by decide +kernel
  have hu := fl_head (f := varW) (w := "var") (fun x => ⟨_, rfl⟩) us (fl rndW rs)
  have hr := fl_head (f := rndW) (w := "round") (fun x => ⟨_, rfl⟩) rs []
  rw [List.append_nil] at hr
  unfold GmK
  by_cases zA : n ≤ (fl optW os).length
  · rcases cut_opts od os 7 [] 0 so h.o (by show 0 + os.length ≤ 6; omega) (by omega) (Nat.zero_le _) (by omega) with hb | ⟨k, hk, hkn, hb⟩
    · rw [hb]
      exact e
    · rw [hb]
      show (match varsM ws 13 [] n with
        | .bad j => _
        | .ok us j => _)
      rw [vars_nil od]
      intro c hc
      have od' : OddAt c.ws n := by rw [hc.1]; exact od
      rw [rnds_nil od']
      exact fin (k := k) (by rw [pcs1 hk, hkn, Nat.zero_add]) _ _ _
  have oA : optsM ws 7 [] 0 = .ok os (0 + (fl optW os).length) := opts_back os 7 [] 0 (so.full (by omega)) h.o (by show 0 + os.length ≤ 6; omega) (by omega) (by
    rw [Nat.zero_add]
    have s1 := sb.right
    rw [Nat.zero_add] at s1
    rcases hu with ⟨_, e1⟩ | ⟨r, e1⟩
    · rw [e1] at s1
      rcases hr with ⟨_, e2⟩ | ⟨r, e2⟩
      · exfalso
        have l0 := congrArg List.length e1
        rw [List.length_append] at l0
        have l1 := congrArg List.length e2
        have : ([] : List Str).length = 0 := rfl
        omega
      · rw [e2] at s1
        rw [s1.head (by omega)]
        exact fun z => n2 (Option.some.inj z)
    · rw [e1] at s1
      rw [s1.head (by omega)]
      exact fun z => n1 (Option.some.inj z))
  rw [Nat.zero_add] at oA
  rw [oA]
  show (match varsM ws 13 [] (fl optW os).length with
    | .bad j => _
    | .ok us j => _)
  by_cases zB : n ≤ (fl optW os).length + (fl varW us).length
  · rcases cut_vars od us 13 [] (fl optW os).length sv h.u h.un (by show 0 + us.length ≤ 12; omega) (by omega) (by omega) zB with hb | ⟨k, hk, hkn, hb⟩
    · rw [hb]
      exact e
    · rw [hb]
      intro c hc
      have od' : OddAt c.ws n := by rw [hc.1]; exact od
      rw [rnds_nil od']
      exact fin (k := os.length + k) (by rw [pcs2 hk, hkn, List.length_append]) _ _ _
  have oB : varsM ws 13 [] (fl optW os).length = .ok us ((fl optW os).length + (fl varW us).length) := vars_back us 13 [] _ (sv.full (by omega)) h.u h.un (by show 0 + us.length ≤ 12; omega) (by omega) (by
    rcases hr with ⟨_, e2⟩ | ⟨r, e2⟩
    · have l0 : (fl rndW rs).length = 0 := by rw [e2]; rfl
      omega
    · rw [e2] at sr
      rw [sr.head (by omega)]
      exact fun z => n3 (Option.some.inj z))
  rw [oB]
  intro c hc
  obtain ⟨c1, c2, c3, c4⟩ := hc
  have od' : OddAt c.ws n := by rw [c1]; exact od
  rcases cut_rnds (c := c) (by rw [c3]; exact h.u.1) (by rw [c2]; exact h.o.1) c4 od' (by rw [c1]; exact hn) rs 9 [] ((fl optW os).length + (fl varW us).length) (0, 0) (by rw [c1]; exact sr) h.r (by rw [c2, c3]; exact h.g) (by show 0 + rs.length ≤ 8; omega) (by omega) (by omega) (by omega) with hb | ⟨k, hk, hkn, hb⟩
  · rw [hb]
    exact e
  · rw [hb]
    exact fin (k := os.length + us.length + k) (by rw [pcs3, hkn, List.length_append, List.length_append, Nat.add_assoc]) _ _ _
theorem NewL.pre {α : Type} {xs : List (Str × α)} (h : NewL [] (xs.map (·.1))) (k : Nat) : NewL [] ((xs.take k).map (·.1)) := by
  obtain ⟨h1, h2, _⟩ := h
  rw [List.map_take]
  exact ⟨fun x m => h1 x (List.mem_of_mem_take m), List.Sublist.nodup (List.take_sublist _ _) h2, fun _ _ z => by cases z⟩
theorem gr_pre {vs os : List Str} : ∀ {rs : List (Str × List St)} {a : Nat × Nat} (k : Nat), GR vs os rs a → GR vs os (rs.take k) a
  | [], _, 0, _ => trivial
  | [], _, _ + 1, _ => trivial
  | _ :: _, _, 0, _ => trivial
  | _ :: _, _, k + 1, ⟨m, h1, h2, h3⟩ => ⟨m, h1, h2, gr_pre k h3⟩
/-- a beginning that ends behind a piece is a game -/
theorem pre_game {os : List (Str × Bool)} {us : List (Str × Int)} {rs : List (Str × List St)} (h : GOk os us rs) (k : Nat) : ∃ os' us' rs', ((pcs os us rs).take k).flatten = gameW os' us' rs' ∧ GOk os' us' rs' := by
  have nil0 : NewL [] ([] : List Str) := ⟨(fun _ m => by cases m), List.nodup_nil, (fun _ m => by cases m)⟩
  have o6 := h.o6
  have u12 := h.u12
  have r8 := h.r8
  by_cases z1 : k ≤ os.length
  · refine ⟨os.take k, [], [], by rw [pcs1 z1]; unfold gameW fl; simp, ⟨h.o.pre k, ?_, nil0, by decide, (fun _ m => by cases m), nil0, by decide, trivial⟩⟩
    rw [List.length_take]
    omega
  obtain ⟨k1, rfl⟩ : ∃ k1, k = os.length + k1 := ⟨k - os.length, by omega⟩
  by_cases z2 : k1 ≤ us.length
  · refine ⟨os, us.take k1, [], by rw [pcs2 z2]; unfold gameW fl; simp, ⟨h.o, o6, h.u.pre k1, ?_, fun q m => h.un q (List.mem_of_mem_take m), nil0, by decide, trivial⟩⟩
    rw [List.length_take]
    omega
  obtain ⟨k2, rfl⟩ : ∃ k2, k1 = us.length + k2 := ⟨k1 - us.length, by omega⟩
  refine ⟨os, us, rs.take k2, by rw [← Nat.add_assoc, pcs3]; rfl, ⟨h.o, o6, h.u, u12, h.un, h.r.pre k2, ?_, gr_pre k2 h.g⟩⟩
  rw [List.length_take]
  omega
theorem tx_parts' {ws : List Str} (h : ∀ w ∈ ws, 32 ∉ w.cps.toList) (n : ws = [] ∨ 0 < (tx ws).length) : Parts ws (tx ws) := by
  rcases n with rfl | n
  · exact .inl ⟨rfl, rfl⟩
  · refine .inr ⟨n, fun z => ?_, h, (tx_cps ws).symm⟩
    rw [z] at n
    exact Nat.lt_irrefl 0 n


theorem tx_pos {ws : List Str} (h : 2 ≤ ws.length ∨ ∃ w ∈ ws, 0 < w.length) : 0 < (tx ws).length := by
  have q := joinC_len (ws.map (·.cps.toList))
  rw [← tx_cps, List.length_map, List.map_map] at q
  show 0 < (tx ws).cps.toList.length
  rcases h with h | ⟨w, m, h⟩
  · omega
  · have l1 : 0 < ws.length := List.length_pos_of_mem m
    have l2 : w.length ≤ (ws.map (List.length ∘ fun x => x.cps.toList)).sum := by
      clear q l1
      induction ws with
      | nil => cases m
      | cons a r ih =>
        rw [List.map_cons, List.sum_cons]
        rcases List.mem_cons.mp m with rfl | m
        · show w.cps.toList.length ≤ w.cps.toList.length + _
          omega
        · have := ih m
          omega
    omega
theorem game_first (os : List (Str × Bool)) (us : List (Str × Int)) (rs : List (Str × List St)) : gameW os us rs = [] ∨ ∃ w r, gameW os us rs = w :: r ∧ 0 < w.length := by
  obtain ⟨p1, p2, p3⟩ : 0 < ("option" : Str).length ∧ 0 < ("var" : Str).length ∧ 0 < ("round" : Str).length := by decide +kernel
  unfold gameW
  rcases fl_head (f := optW) (w := "option") (fun x => ⟨_, rfl⟩) os (fl varW us ++ fl rndW rs) with ⟨_, e⟩ | ⟨r, e⟩
  · rw [e]
    rcases fl_head (f := varW) (w := "var") (fun x => ⟨_, rfl⟩) us (fl rndW rs) with ⟨_, e⟩ | ⟨r, e⟩
    · rw [e]
      rcases fl_head (f := rndW) (w := "round") (fun x => ⟨_, rfl⟩) rs [] with ⟨_, e⟩ | ⟨r, e⟩
      · rw [List.append_nil] at e
        exact .inl e
      · rw [List.append_nil] at e
        exact .inr ⟨_, r, e, p3⟩
    · exact .inr ⟨_, r, e, p2⟩
  · exact .inr ⟨_, r, e, p1⟩

/-! ### beginnings of a text, and what is refused behind them -/
theorem opts_pre {ws : List Str} : ∀ (os : List (Str × Bool)) (f : Nat) (acc : List (Str × Bool)) (i : Nat), SubAt ws i (fl optW os) → NewL (acc.map (·.1)) (os.map (·.1)) → acc.length + os.length ≤ 6 →
    optsM ws (os.length + f) acc i = optsM ws f (acc ++ os) (i + (fl optW os).length)
  | [], f, acc, i, _, _, _ => by
    rw [List.append_nil, List.length_nil, Nat.zero_add]
    rfl
  | q :: os, f, acc, i, sub, nl, l6 => by
    rw [List.length_cons] at l6
    have s0 : SubAt ws i ("option" :: q.1 :: onS q.2 :: fl optW os) := sub
    have e0 := s0.head
    have e1 := s0.tail.head
    have e2 := s0.tail.tail.head
    have s3 := s0.tail.tail.tail
    have ll : (fl optW (q :: os)).length = (fl optW os).length + 3 := rfl
    obtain ⟨o1, o2⟩ := on_back q.2
    rw [show (q :: os).length + f = (os.length + f) + 1 by rw [List.length_cons]; omega]
    conv => lhs; unfold optsM
    rw [if_pos ⟨e0, by omega⟩, fresh_is e1 nl.hd]
    show (match nameM ws ["on", "off"] (i + 1 + 1) with
      | none => HdR.bad (i + 2)
      | some y => optsM ws (os.length + f) (acc ++ [(q.1, decide (y = "on"))]) (i + 3)) = _
    rw [nameM_is e2 o1]
    show optsM ws (os.length + f) (acc ++ [(q.1, decide (onS q.2 = "on"))]) (i + 3) = _
    have ei : i + (fl optW (q :: os)).length = i + 3 + (fl optW os).length := by omega
    rw [ei, o2, opts_pre os f (acc ++ [q]) (i + 3) s3 (by rw [List.map_append]; exact nl.tl) (by rw [List.length_append]; show acc.length + 1 + os.length ≤ 6; omega), List.append_assoc]
    rfl
theorem vars_pre {ws : List Str} : ∀ (os : List (Str × Int)) (f : Nat) (acc : List (Str × Int)) (i : Nat), SubAt ws i (fl varW os) → NewL (acc.map (·.1)) (os.map (·.1)) → (∀ q ∈ os, 1 ≤ q.2 ∧ q.2 ≤ 65535) → acc.length + os.length ≤ 12 →
    varsM ws (os.length + f) acc i = varsM ws f (acc ++ os) (i + (fl varW os).length)
  | [], f, acc, i, _, _, _, _ => by
    rw [List.append_nil, List.length_nil, Nat.zero_add]
    rfl
  | q :: os, f, acc, i, sub, nl, hq, l6 => by
    rw [List.length_cons] at l6
    obtain ⟨x, n⟩ := q
    have hn := hq (x, n) List.mem_cons_self
    obtain ⟨k, rfl⟩ := Int.eq_ofNat_of_zero_le (show 0 ≤ n by have := hn.1; omega)
    have hn1 : 1 ≤ ((k : Nat) : Int) := hn.1
    have hn2 : ((k : Nat) : Int) ≤ 65535 := hn.2
    have s0 : SubAt ws i ("var" :: x :: numS ((k : Nat) : Int) :: fl varW os) := sub
    have e0 := s0.head
    have e1 := s0.tail.head
    have e2 := s0.tail.tail.head
    have s3 := s0.tail.tail.tail
    have ll : (fl varW ((x, ((k : Nat) : Int)) :: os)).length = (fl varW os).length + 3 := rfl
    rw [show ((x, ((k : Nat) : Int)) :: os).length + f = (os.length + f) + 1 by rw [List.length_cons]; omega]
    conv => lhs; unfold varsM
    rw [if_pos ⟨e0, by omega⟩, fresh_is e1 nl.hd]
    show (match numM ws 1 65535 (i + 1 + 1) with
      | none => HdR.bad (i + 2)
      | some y => varsM ws (os.length + f) (acc ++ [(x, ((y : Nat) : Int))]) (i + 3)) = _
    rw [numM_is e2 (by omega) (by omega)]
    show varsM ws (os.length + f) (acc ++ [(x, ((k : Nat) : Int))]) (i + 3) = _
    have ei : i + (fl varW ((x, ((k : Nat) : Int)) :: os)).length = i + 3 + (fl varW os).length := by omega
    rw [ei, vars_pre os f (acc ++ [(x, ((k : Nat) : Int))]) (i + 3) s3 (by rw [List.map_append]; exact nl.tl) (fun z m => hq z (List.mem_cons_of_mem _ m)) (by rw [List.length_append]; show acc.length + 1 + os.length ≤ 12; omega), List.append_assoc]
    rfl
theorem rnds_pre {c : CuI} (hv : ∀ x ∈ c.vars, Nm x) (se : c.se = false) : ∀ (rs : List (Str × List St)) (f : Nat) (acc : List (Str × List St)) (i : Nat) (a b : Nat × Nat), SubAt c.ws i (fl rndW rs) → NewL (acc.map (·.1)) (rs.map (·.1)) → GRt c.vars c.ops rs a b → acc.length + rs.length ≤ 8 →
    rndsM c (rs.length + f) acc i a = rndsM c f (acc ++ rs) (i + (fl rndW rs).length) b
  | [], f, acc, i, a, b, _, _, g, _ => by
    have e : b = a := g
    rw [e, List.append_nil, List.length_nil, Nat.zero_add]
    rfl
  | q :: os, f, acc, i, a, b, sub, nl, ⟨m, g1, g2, g3⟩, l6 => by
    rw [List.length_cons] at l6
    have s0 : SubAt c.ws i ("round" :: q.1 :: ((blockW q.2 ++ (["end"] : List Str)) ++ fl rndW os)) := sub
    have e0 := s0.head
    have e1 := s0.tail.head
    have s2 := s0.tail.tail
    have sb := s2.left.left
    have e3 : c.ws[i + 1 + 1 + (blockW q.2).length]? = some ("end" : Str) := s2.left.right.head
    have s3 := s2.right
    have ll : (fl rndW (q :: os)).length = (blockW q.2 ++ (["end"] : List Str)).length + (fl rndW os).length + 2 := by
      show ((blockW q.2 ++ (["end"] : List Str)) ++ fl rndW os).length + 1 + 1 = _
      rw [List.length_append]
    rw [List.length_append] at ll s3
    have lb1 : (["end"] : List Str).length = 1 := rfl
    rw [show (q :: os).length + f = (os.length + f) + 1 by rw [List.length_cons]; omega]
    conv => lhs; unfold rndsM
    rw [if_pos ⟨e0, by omega⟩, fresh_is e1 nl.hd]
    show (match blockM c 8 (i + 1 + 1) a with
        | .bad j => HdR.bad j
        | .ok ss j st' => if c.ws[j]? = some ("end" : Str) then rndsM c (os.length + f) (acc ++ [(q.1, ss)]) (j + 1) st' else .bad j) = _
    rw [block_back hv se 8 q.2 (i + 1 + 1) a m g1 g2 sb fun x z => by rw [e3] at z; exact .inl (Option.some.inj z).symm]
    show (if c.ws[i + 1 + 1 + (blockW q.2).length]? = some ("end" : Str) then rndsM c (os.length + f) (acc ++ [(q.1, q.2)]) (i + 1 + 1 + (blockW q.2).length + 1) m else _) = _
    rw [if_pos e3]
    have ei : i + (fl rndW (q :: os)).length = i + 1 + 1 + (blockW q.2).length + 1 + (fl rndW os).length := by omega
    rw [ei, rnds_pre hv se os f (acc ++ [q]) (i + 1 + 1 + (blockW q.2).length + 1) m b s3 (by rw [List.map_append]; exact nl.tl) g3 (by rw [List.length_append]; show acc.length + 1 + os.length ≤ 8; omega), List.append_assoc]
    rfl
theorem fresh_not {ws ns : List Str} {i : Nat} {x : Str} (e : ws[i]? = some x) (h : x ∈ ns) : freshM ws ns i = none := freshM_none fun y v ey f => by
  obtain ⟨_, f2, _⟩ := f
  rw [e] at ey
  cases ey
  exact f2 h
/-- options, variables and rounds that can stand ahead -/
structure Pre3 (os : List (Str × Bool)) (us : List (Str × Int)) (rs : List (Str × List St)) (b : Nat × Nat) : Prop where
  o : NewL [] (os.map (·.1))
  o6 : os.length ≤ 6
  u : NewL [] (us.map (·.1))
  u12 : us.length ≤ 12
  un : ∀ q ∈ us, 1 ≤ q.2 ∧ q.2 ≤ 65535
  r : NewL [] (rs.map (·.1))
  r8 : rs.length < 8
  g : GRt (us.map (·.1)) (os.map (·.1)) rs (0, 0) b
theorem dupO {os : List (Str × Bool)} {ws rest : List Str} {x : Str} (o : NewL [] (os.map (·.1))) (l : os.length < 6) (e : ws = fl optW os ++ (("option" : Str) :: x :: rest)) (m : x ∈ os.map (·.1)) : RdBad ws ((fl optW os).length + 1) := by
  intro K C B H Q E k
  have s0 : SubAt ws 0 (fl optW os ++ (("option" : Str) :: x :: rest)) := fun j y z => by rw [Nat.zero_add, e]; exact z
  have sr := s0.right
  have o1 : optsM ws 7 [] 0 = .bad (0 + (fl optW os).length + 1) := by
    rw [show 7 = os.length + ((6 - os.length) + 1) by omega, opts_pre os _ [] 0 s0.left o (by show 0 + os.length ≤ 6; omega)]
    unfold optsM
    rw [List.nil_append, if_pos ⟨sr.head, l⟩, fresh_not sr.tail.head m]
  unfold GmK
  rw [o1, Nat.zero_add]
  exact k
theorem opts_all {os : List (Str × Bool)} {ws rest : List Str} (o : NewL [] (os.map (·.1))) (l : os.length ≤ 6) (e : ws = fl optW os ++ rest) (h : rest[0]? ≠ some ("option" : Str)) : optsM ws 7 [] 0 = .ok os (0 + (fl optW os).length) := by
  have s0 : SubAt ws 0 (fl optW os ++ rest) := fun j y z => by rw [Nat.zero_add, e]; exact z
  exact opts_back os 7 [] 0 s0.left o (by show 0 + os.length ≤ 6; omega) (by omega) (by rw [Nat.zero_add, drop_head e]; exact h)
theorem dupV {os : List (Str × Bool)} {us : List (Str × Int)} {ws rest : List Str} {x : Str} (o : NewL [] (os.map (·.1))) (l : os.length ≤ 6) (u : NewL [] (us.map (·.1))) (un : ∀ q ∈ us, 1 ≤ q.2 ∧ q.2 ≤ 65535) (lu : us.length < 12) (e : ws = fl optW os ++ (fl varW us ++ (("var" : Str) :: x :: rest))) (m : x ∈ us.map (·.1)) : RdBad ws ((fl optW os).length + (fl varW us).length + 1) := by
  intro K C B H Q E k
  have s0 : SubAt ws 0 (fl optW os ++ (fl varW us ++ (("var" : Str) :: x :: rest))) := fun j y z => by rw [Nat.zero_add, e]; exact z
  have n1 : ("var" : Str) ≠ "option" := by decide +kernel
  have hd : (fl varW us ++ (("var" : Str) :: x :: rest))[0]? ≠ some ("option" : Str) := by
    rcases fl_head (f := varW) (w := "var") (fun x => ⟨_, rfl⟩) us (("var" : Str) :: x :: rest) with ⟨_, z⟩ | ⟨r, z⟩ <;> (rw [z]; exact fun y => n1 (Option.some.inj y))
  have sv := s0.right
  have o2 : varsM ws 13 [] (0 + (fl optW os).length) = .bad (0 + (fl optW os).length + (fl varW us).length + 1) := by
    rw [show 13 = us.length + ((12 - us.length) + 1) by omega, vars_pre us _ [] _ sv.left u un (by show 0 + us.length ≤ 12; omega)]
    unfold varsM
    rw [List.nil_append, if_pos ⟨sv.right.head, lu⟩, fresh_not sv.right.tail.head m]
  unfold GmK
  rw [opts_all o l e hd]
  show (match varsM ws 13 [] (0 + (fl optW os).length) with
    | .bad j => _
    | .ok us j => _)
  rw [o2, Nat.zero_add]
  exact k
/-- a round that is refused at n -/
def BadRnd (c : CuI) (acc : List (Str × List St)) (i : Nat) (b : Nat × Nat) (n : Nat) : Prop := ∀ f, rndsM c (f + 1) acc i b = .bad n
theorem badR {os : List (Str × Bool)} {us : List (Str × Int)} {rs : List (Str × List St)} {b : Nat × Nat} (h : Pre3 os us rs b) {ws rest : List Str} {n : Nat} {x : Str} (e : ws = fl optW os ++ (fl varW us ++ (fl rndW rs ++ (("round" : Str) :: x :: rest))))
    (k : ∀ c, Cur c ws os us → BadRnd c rs ((fl optW os).length + ((fl varW us).length + (fl rndW rs).length)) b n) : RdBad ws n := by
  intro K C B H Q E q
  have s0 : SubAt ws 0 (fl optW os ++ (fl varW us ++ (fl rndW rs ++ (("round" : Str) :: x :: rest)))) := fun j y z => by rw [Nat.zero_add, e]; exact z
  obtain ⟨n1, n2, n3⟩ : ("var" : Str) ≠ "option" ∧ ("round" : Str) ≠ "option" ∧ ("round" : Str) ≠ "var" := by decide +kernel
  have r0 : ∀ w : Str, w ≠ "round" → (fl rndW rs ++ (("round" : Str) :: x :: rest))[0]? ≠ some w := fun w nw => by
    rcases fl_head (f := rndW) (w := "round") (fun x => ⟨_, rfl⟩) rs (("round" : Str) :: x :: rest) with ⟨_, z⟩ | ⟨r, z⟩ <;> (rw [z]; exact fun y => nw (Option.some.inj y).symm)
  have hd : (fl varW us ++ (fl rndW rs ++ (("round" : Str) :: x :: rest)))[0]? ≠ some ("option" : Str) := by
    rcases fl_head (f := varW) (w := "var") (fun x => ⟨_, rfl⟩) us (fl rndW rs ++ (("round" : Str) :: x :: rest)) with ⟨_, z⟩ | ⟨r, z⟩
    · rw [z]
      exact r0 _ n2.symm
    · rw [z]
      exact fun y => n1 (Option.some.inj y)
  have e1 : ws = (fl optW os ++ fl varW us) ++ (fl rndW rs ++ (("round" : Str) :: x :: rest)) := by rw [e, List.append_assoc]
  have o6 := h.o6
  have u12 := h.u12
  have o2 : varsM ws 13 [] (0 + (fl optW os).length) = .ok us (0 + (fl optW os).length + (fl varW us).length) := vars_back us 13 [] _ s0.right.left h.u h.un (by show 0 + us.length ≤ 12; omega) (by omega) (by
    rw [Nat.zero_add, ← List.length_append, drop_head e1]
    exact r0 _ n3.symm)
  unfold GmK
  rw [opts_all h.o h.o6 e hd]
  show (match varsM ws 13 [] (0 + (fl optW os).length) with
    | .bad j => _
    | .ok us j => _)
  rw [o2]
  intro c hc
  have hk := k c hc
  obtain ⟨c1, c2, c3, c4⟩ := hc
  have r8 := h.r8
  have o3 : rndsM c 9 [] (0 + (fl optW os).length + (fl varW us).length) (0, 0) = .bad n := by
    rw [show 9 = rs.length + ((8 - rs.length) + 1) by omega, rnds_pre (by rw [c3]; exact h.u.1) c4 rs _ [] _ (0, 0) b (by rw [c1]; exact s0.right.right.left) h.r (by rw [c2, c3]; exact h.g) (by show 0 + rs.length ≤ 8; omega), List.nil_append, Nat.zero_add, Nat.add_assoc]
    exact hk _
  rw [o3]
  exact q
theorem rnd_dup {c : CuI} {acc : List (Str × List St)} {i : Nat} {b : Nat × Nat} {x : Str} (e0 : c.ws[i]? = some ("round" : Str)) (l : acc.length < 8) (e1 : c.ws[i + 1]? = some x) (m : x ∈ acc.map (·.1)) : BadRnd c acc i b (i + 1) := fun f => by
  unfold rndsM
  rw [if_pos ⟨e0, l⟩, fresh_not e1 m]
theorem rnd_bad {c : CuI} {acc : List (Str × List St)} {i n : Nat} {b : Nat × Nat} {x w : Str} (e0 : c.ws[i]? = some ("round" : Str)) (l : acc.length < 8) (e1 : c.ws[i + 1]? = some x) (nx : Nm x ∧ x ∉ acc.map (·.1)) (e2 : c.ws[i + 2]? = some w) (h : (w ∉ opensB c 8 b ∧ w ≠ "end" ∧ n = i + 2) ∨ (w ∈ opensB c 8 b ∧ stmtM c (blockM c 7) w (i + 3) b = .bad n)) : BadRnd c acc i b n := fun f => by
  unfold rndsM
  rw [if_pos ⟨e0, l⟩, fresh_is e1 nx]
  show (match blockM c 8 (i + 2) b with
    | .bad j => HdR.bad j
    | .ok ss j st' => if c.ws[j]? = some ("end" : Str) then rndsM c f (acc ++ [(x, ss)]) (j + 1) st' else .bad j) = _
  rcases h with ⟨h1, h2, rfl⟩ | ⟨h1, h2⟩
  · have hh : headM c 8 (blockM c 7) (i + 2) b = none := by
      unfold headM
      rw [e2]
      show (if w ∈ opensB c 8 b then _ else none) = _
      rw [if_neg h1]
    have hb : blockM c 8 (i + 2) b = .ok [] (i + 2) b := by
      unfold blockM loopM
      rw [hh]
    rw [hb]
    show (if c.ws[i + 2]? = some ("end" : Str) then _ else HdR.bad (i + 2)) = _
    rw [if_neg fun z => h2 (Option.some.inj (e2.symm.trans z))]
  · have hh : headM c 8 (blockM c 7) (i + 2) b = some (.bad n) := by
      unfold headM
      rw [e2]
      show (if w ∈ opensB c 8 b then some (stmtM c (blockM c 7) w (i + 3) b) else none) = _
      rw [if_pos h1, h2]
    have hb : blockM c 8 (i + 2) b = .bad n := by
      unfold blockM loopM
      rw [hh]
    rw [hb]
theorem name_not {ws l : List Str} {i : Nat} {x : Str} (e : ws[i]? = some x) (h : x ∉ l) : nameM ws l i = none := by
  unfold nameM
  rw [e]
  show (if x ∈ l then some x else none) = _
  rw [if_neg h]
def askWs : List Str := ["set", "draw", "first", "second", "when", "pay"]
theorem ask_vars {c : CuI} {w : Str} {i : Nat} {b : Nat × Nat} {y : Str} (mw : w ∈ (["set", "draw", "first", "second"] : List Str)) (hb : b.1 + b.2 < 24) (e : c.ws[i]? = some y) (h : y ∉ c.vars) : (c.vars = [] ∧ w ∉ opensB c 8 b) ∨ (c.vars ≠ [] ∧ w ∈ opensB c 8 b ∧ stmtM c (blockM c 7) w i b = .bad i) := by
  by_cases z : c.vars = []
  · refine .inl ⟨z, fun m => ?_⟩
    have m2 : w ∈ (["show", "pay", "take"] : List Str) ++ (if 0 < 8 then ((["if"] : List Str) ++ if (!c.ops.isEmpty) = true then (["when"] : List Str) else []) else []) := by
      rcases List.mem_append.mp m with m | m
      · exact m
      · rw [z, if_neg (by decide)] at m
        cases m
    have m3 : w ∈ (["show", "pay", "take", "if", "when"] : List Str) := by
      rcases List.mem_append.mp m2 with m | m
      · exact List.mem_append_left (["if", "when"] : List Str) m
      · rw [if_pos (by decide)] at m
        rcases List.mem_append.mp m with m | m
        · rw [List.mem_singleton.mp m]; decide +kernel
        · split at m
          · rw [List.mem_singleton.mp m]; decide +kernel
          · cases m
    have : ∀ w ∈ (["set", "draw", "first", "second"] : List Str), w ∉ (["show", "pay", "take", "if", "when"] : List Str) := by decide +kernel
    exact this w mw m3
  · obtain ⟨v0, hv0⟩ : ∃ v0, v0 ∈ c.vars := by
      cases hc : c.vars with
      | nil => exact absurd hc z
      | cons v r => exact ⟨v, List.mem_cons_self⟩
    have k : ∀ w ∈ (["set", "draw", "first", "second"] : List Str), w ≠ "if" ∧ w ≠ "when" ∧ w ≠ "show" ∧ (w = "set" ∨ w ≠ "set" ∧ w ∈ (["draw", "first", "second"] : List Str)) := by decide +kernel
    obtain ⟨k1, k2, k3, k4⟩ := k w mw
    refine .inr ⟨z, ?_, ?_⟩
    · rcases k4 with rfl | ⟨_, k4⟩
      · exact opB_set hv0
      · exact opB_draw hv0 hb k4
    · unfold stmtM
      rw [if_neg k1, if_neg k2, if_neg k3]
      rcases k4 with rfl | ⟨k5, k4⟩
      · rw [if_pos rfl, name_not e h]
      · rw [if_neg k5, if_pos k4]
        unfold choiceM
        rw [name_not e h]
theorem ask_when {c : CuI} {i : Nat} {b : Nat × Nat} {y : Str} (e : c.ws[i]? = some y) (h : y ∉ c.ops) : (c.ops = [] ∧ ("when" : Str) ∉ opensB c 8 b) ∨ (c.ops ≠ [] ∧ ("when" : Str) ∈ opensB c 8 b ∧ stmtM c (blockM c 7) "when" i b = .bad i) := by
  by_cases z : c.ops = []
  · refine .inl ⟨z, fun m => ?_⟩
    have all : ("when" : Str) ∈ (["show", "pay", "take", "if", "set", "draw", "first", "second"] : List Str) := by
      rcases List.mem_append.mp m with m | m
      · rcases List.mem_append.mp m with m | m
        · exact List.mem_append_left (["if", "set", "draw", "first", "second"] : List Str) m
        · rw [if_pos (by decide), z, if_neg (by decide), List.append_nil] at m
          rw [List.mem_singleton.mp m]
          decide +kernel
      · split at m
        · rcases List.mem_append.mp m with m | m
          · rw [List.mem_singleton.mp m]; decide +kernel
          · split at m
            · exact List.mem_append_right (["show", "pay", "take", "if", "set"] : List Str) m
            · cases m
        · cases m
    exact absurd all (by decide +kernel)
  · obtain ⟨v0, hv0⟩ : ∃ v0, v0 ∈ c.ops := by
      cases hc : c.ops with
      | nil => exact absurd hc z
      | cons v r => exact ⟨v, List.mem_cons_self⟩
    refine .inr ⟨z, opB_when (by decide) hv0, ?_⟩
    unfold stmtM
    rw [if_neg (show ("when" : Str) ≠ "if" by decide +kernel), if_pos rfl, name_not e h]
theorem ask_pick {c : CuI} (hv : ∀ x ∈ c.vars, Nm x) (se : c.se = false) {i : Nat} {b : Nat × Nat} {y : Str} (e0 : c.ws[i]? = some ("pick" : Str)) (e : c.ws[i + 1]? = some y) (h : y ∉ c.ops) : ("pay" : Str) ∈ opensB c 8 b ∧ stmtM c (blockM c 7) "pay" i b = .bad (if c.ops = [] then i else i + 1) := by
  refine ⟨opB_base (by decide +kernel), ?_⟩
  obtain ⟨k1, k2, k3, k4, k5⟩ : ("pay" : Str) ≠ "if" ∧ ("pay" : Str) ≠ "when" ∧ ("pay" : Str) ≠ "show" ∧ ("pay" : Str) ≠ "set" ∧ ("pay" : Str) ∉ (["draw", "first", "second"] : List Str) := by decide +kernel
  obtain ⟨o1, o3, o4⟩ : ("pick" : Str) ∈ openAll ∧ ("pick" : Str) ≠ "long" ∧ ("pick" : Str) ≠ "view" := by decide +kernel
  unfold stmtM
  rw [if_neg k1, if_neg k2, if_neg k3, if_neg k4, if_neg k5]
  have hr : readM c 12 i = .bad (if c.ops = [] then i else i + 1) := by
    unfold readM
    rw [e0]
    show (if ("pick" : Str) ∈ c.vars then _ else if ("pick" : Str) ∈ opens c.se (!c.ops.isEmpty) 12 then partsR c (readM c 11) "pick" (i + 1) else match numOf ("pick" : Str) with
      | some n => RdR.ok (.num n) (i + 1)
      | none => .bad i) = _
    rw [if_neg (fun z => nm_open (hv _ z) o1)]
    by_cases z : c.ops = []
    · have no : ("pick" : Str) ∉ opens c.se (!c.ops.isEmpty) 12 := by
        rw [z, se]
        decide +kernel
      rw [if_neg no, open_num o1, if_pos z]
    · have yes : ("pick" : Str) ∈ opens c.se (!c.ops.isEmpty) 12 := by
        refine opens_in (k := 10) (.inr (.inl ⟨?_, rfl⟩))
        cases hc : c.ops with
        | nil => exact absurd hc z
        | cons _ _ => rfl
      rw [if_pos yes, if_neg z]
      unfold partsR
      rw [if_neg o3, if_neg o4, if_pos rfl, e]
      show (if y ∈ c.ops then _ else RdR.bad (i + 1)) = _
      rw [if_neg h]
  unfold exprM
  rw [hr]


/-! ### texts near a bound -/
def nS (k : Nat) : Str := ("n" : Str) ++ Str.ofString (toString ((k : Nat) : Int))
theorem nS_cps (k : Nat) : (nS k).cps.toList = 110 :: TL.numL k := by
  unfold nS
  have e : (Str.ofString (toString ((k : Nat) : Int))).cps.toList = TL.numL k := TL.tl_num k
  rw [app_cps, e]
  rfl
theorem nS_nm {k : Nat} (h : k < 20) : Nm (nS k) := by
  refine ⟨⟨110, TL.numL k, nS_cps k, ⟨by decide, by decide⟩, fun d m => .inr (TL.numL_digits k d m), ?_⟩, ?_⟩
  · have := TL.numL_len (n := k) (k := 2) (by decide) (by omega)
    omega
  · have : (List.range 20).all (fun k => decide (nS k ∉ kwL)) = true := by decide +kernel
    exact of_decide_eq_true (List.all_eq_true.mp this k (List.mem_range.mpr h))
theorem nS_val (i : Nat) : ("n" : Str) ++ Str.ofString (toString (0 + (i : Int))) = nS i := by
  rw [Int.zero_add]
  rfl
theorem nS_new {n : Nat} (h : n ≤ 20) : NewL [] ((List.range n).map nS) := by
  refine ⟨fun x m => ?_, ?_, fun _ _ z => by cases z⟩
  · obtain ⟨k, mk, rfl⟩ := List.mem_map.mp m
    exact nS_nm (by have := List.mem_range.mp mk; omega)
  · have nd : ((List.range 20).map nS).Nodup := by decide +kernel
    exact nd.sublist ((List.range_sublist.mpr h).map nS)
/-- what a word of a text is made of -/
def WdS (x : Str) : Prop := (∀ c ∈ x.cps.toList, c < 128 ∧ c ≠ 32) ∧ x.length ≤ 40
theorem WdC.s {x : Str} (h : WdC x) : WdS x := ⟨h.1, Nat.le_trans h.2 (by decide)⟩
/-- a text, the place where it is refused, and whether it is -/
structure BT (ws : List Str) (n : Nat) (w : Bool) : Prop where
  wd : ∀ x ∈ ws, WdS x
  two : ws = [] ∨ 2 ≤ ws.length
  len : ws.length ≤ 200
  yes : w = false → ∃ os us rs, GOk os us rs ∧ ws = gameW os us rs
  no : w = true → RdBad ws n
theorem BT.good {ws : List Str} {n : Nat} {w : Bool} {os : List (Str × Bool)} {us : List (Str × Int)} {rs : List (Str × List St)} (hw : w = false) (h : GOk os us rs) (e : ws = gameW os us rs) (l : ws.length ≤ 200) : BT ws n w := by
  subst hw
  exact ⟨fun x m => (game_wd h x (e ▸ m)).s, e ▸ game_two os us rs, l, fun _ => ⟨os, us, rs, h, e⟩, fun z => Bool.noConfusion z⟩
def litW : List Str := ["option", "on", "off", "var", "round", "end", "if", "when", "else", "draw", "first", "second", "pay", "take", "x", "o", "r", "1", "2", "5", "7", "9", "+", "-", "*", "/", "mod", "<", "="]
theorem lit_s {x : Str} (m : x ∈ litW) : WdS x := by
  have t : litW.all (fun w => (w.cps.toList.all fun c => decide (c < 128 ∧ c ≠ 32)) && decide (w.length ≤ 40)) = true := by decide +kernel
  have h := List.all_eq_true.mp t x m
  rw [Bool.and_eq_true, decide_eq_true_eq] at h
  exact ⟨fun c mc => of_decide_eq_true (List.all_eq_true.mp h.1 c mc), h.2⟩
/-- what stands behind all that can be read is refused -/
theorem stuck {ws : List Str} {os : List (Str × Bool)} {us : List (Str × Int)} {rs : List (Str × List St)} {j1 j2 j3 : Nat} (h1 : optsM ws 7 [] 0 = .ok os j1) (h2 : varsM ws 13 [] j1 = .ok us j2) (h3 : ∀ c, Cur c ws os us → rndsM c 9 [] j2 (0, 0) = .ok rs j3) (h4 : ws[j3]? ≠ none) : RdBad ws j3 := by
  intro K C B H Q E k
  unfold GmK
  rw [h1]
  show (match varsM ws 13 [] j1 with
    | .bad j => _
    | .ok us j => _)
  rw [h2]
  intro c hc
  rw [h3 c hc]
  exact ⟨fun z => absurd z h4, fun _ => k⟩
theorem vars_no {ws : List Str} {i : Nat} (h : ws[i]? ≠ some ("var" : Str)) : varsM ws 13 [] i = .ok [] i := by
  unfold varsM
  rw [if_neg fun z => h z.1]
theorem rnds_no {c : CuI} {i f : Nat} {acc : List (Str × List St)} {st : Nat × Nat} (h : c.ws[i]? ≠ some ("round" : Str)) : rndsM c (f + 1) acc i st = .ok acc i := by
  unfold rndsM
  rw [if_neg fun z => h z.1]
theorem opts_no {ws : List Str} {i f : Nat} {acc : List (Str × Bool)} (h : ws[i]? ≠ some ("option" : Str)) : optsM ws (f + 1) acc i = .ok acc i := by
  unfold optsM
  rw [if_neg fun z => h z.1]
theorem sub_self (ws : List Str) : SubAt ws 0 ws := fun j y z => by rw [Nat.zero_add]; exact z
theorem fl_map {α β : Type} {f : α → List Str} {g : β → α} : ∀ xs : List β, fl f (xs.map g) = fl (fun x => f (g x)) xs
  | [] => rfl
  | x :: r => by
    show f (g x) ++ fl f (r.map g) = f (g x) ++ fl (fun x => f (g x)) r
    rw [fl_map r]
theorem fl_len {α : Type} {f : α → List Str} {k : Nat} : ∀ (xs : List α), (∀ x ∈ xs, (f x).length = k) → (fl f xs).length = k * xs.length
  | [], _ => by rw [List.length_nil, Nat.mul_zero]; rfl
  | x :: r, h => by
    rw [fl_cons, List.length_append, h x List.mem_cons_self, fl_len r fun y m => h y (List.mem_cons_of_mem _ m), List.length_cons, Nat.mul_succ]
    omega
theorem range_split {n k : Nat} (h : n < k) : List.range k = List.range n ++ n :: (List.range' (n + 1) (k - n - 1)) := by
  rw [List.range_eq_range', List.range_eq_range', show k = n + ((k - n - 1) + 1) by omega, ← List.range'_append_1, List.range'_succ, Nat.zero_add]
  congr 3
  omega
/-! #### options, variables, rounds -/
def manyW (w : Str) (rest : List Str) (k : Nat) : List Str := fl (fun j => w :: nS j :: rest) (List.range k)
theorem many_len (w : Str) (rest : List Str) (k : Nat) : (manyW w rest k).length = (2 + rest.length) * k := by
  unfold manyW
  rw [fl_len (k := 2 + rest.length) _ fun x _ => by show rest.length + 1 + 1 = _; omega, List.length_range]
theorem many_wd {w : Str} {rest : List Str} {k : Nat} (hw : w ∈ litW) (hr : ∀ x ∈ rest, x ∈ litW) (hk : k ≤ 20) : ∀ x ∈ manyW w rest k, WdS x := fun x m => by
  unfold manyW fl at m
  obtain ⟨l, ml, mx⟩ := List.mem_flatten.mp m
  obtain ⟨j, mj, rfl⟩ := List.mem_map.mp ml
  rcases List.mem_cons.mp mx with rfl | mx
  · exact lit_s hw
  rcases List.mem_cons.mp mx with rfl | mx
  · have nm := nS_nm (k := j) (by have := List.mem_range.mp mj; omega)
    refine ⟨fun c mc => ?_, Nat.le_trans nm.1.len (by decide)⟩
    obtain ⟨c0, r, e, h1, h2, _⟩ := nm.1
    rw [e] at mc
    have cl : ∀ {c : Nat}, NmC c → c < 128 ∧ c ≠ 32 := fun h => by
      rcases h with h | h
      · have := h.1
        have := h.2
        omega
      · omega
    rcases List.mem_cons.mp mc with rfl | mc
    · exact cl (.inl h1)
    · exact cl (h2 c mc)
  · exact lit_s (hr x mx)
theorem many_split {w : Str} {rest : List Str} {n k : Nat} (h : n < k) : manyW w rest k = manyW w rest n ++ (w :: (nS n :: rest ++ fl (fun j => w :: nS j :: rest) (List.range' (n + 1) (k - n - 1)))) := by
  unfold manyW
  rw [range_split h, fl_app]
  rfl
def optsN (k : Nat) : List (Str × Bool) := (List.range k).map fun j => (nS j, true)
def varsN (k : Nat) : List (Str × Int) := (List.range k).map fun j => (nS j, 7)
def rndsN (k : Nat) : List (Str × List St) := (List.range k).map fun j => (nS j, [])
theorem optsN_w (k : Nat) : fl optW (optsN k) = manyW "option" ["on"] k := fl_map _
theorem varsN_w (k : Nat) : fl varW (varsN k) = manyW "var" ["7"] k := by
  have e : numS 7 = ("7" : Str) := by decide +kernel
  unfold varsN
  rw [fl_map]
  show fl (fun j => ["var", nS j, numS 7]) _ = _
  rw [e]
  rfl
theorem rndsN_w (k : Nat) : fl rndW (rndsN k) = manyW "round" ["end"] k := fl_map _
theorem optsN_n (k : Nat) : (optsN k).map (·.1) = (List.range k).map nS := by unfold optsN; rw [List.map_map]; rfl
theorem varsN_n (k : Nat) : (varsN k).map (·.1) = (List.range k).map nS := by unfold varsN; rw [List.map_map]; rfl
theorem rndsN_n (k : Nat) : (rndsN k).map (·.1) = (List.range k).map nS := by unfold rndsN; rw [List.map_map]; rfl
theorem rndsN_g (vs os : List Str) : ∀ (l : List Nat) (a : Nat × Nat), GRt vs os (l.map fun j => (nS j, [])) a a
  | [], _ => rfl
  | j :: r, a => ⟨a, rfl, Nat.zero_le _, rndsN_g vs os r a⟩
theorem grt_gr {vs os : List Str} : ∀ {rs : List (Str × List St)} {a b : Nat × Nat}, GRt vs os rs a b → GR vs os rs a
  | [], _, _, _ => trivial
  | _ :: _, _, _, ⟨m, h1, h2, h3⟩ => ⟨m, h1, h2, grt_gr h3⟩
theorem new0 : NewL [] ([] : List Str) := ⟨fun _ m => (by cases m), List.nodup_nil, fun _ m => (by cases m)⟩
theorem many_opt {k : Nat} (hk : k ≤ 8) : BT (manyW "option" ["on"] k) 18 (decide (6 < k)) := by
  have ll : (manyW "option" ["on"] k).length = 3 * k := many_len _ _ _
  have wd := many_wd (w := "option") (rest := ["on"]) (k := k) (by decide +kernel) (by decide +kernel) (by omega)
  by_cases h : 6 < k
  · rw [decide_eq_true h]
    refine ⟨wd, .inr (by omega), by omega, fun z => Bool.noConfusion z, fun _ => ?_⟩
    have e := many_split (w := "option") (rest := ["on"]) h
    rw [← optsN_w 6] at e
    have l6 : (fl optW (optsN 6)).length = 18 := by rw [optsN_w, many_len]; rfl
    have s0 := sub_self (manyW "option" ["on"] k)
    rw [e] at s0
    have sl := s0.left
    have sr := s0.right
    rw [← e] at sl sr
    rw [l6, Nat.zero_add] at sr
    have at18 := sr.head
    obtain ⟨n1, n2⟩ : ("option" : Str) ≠ "var" ∧ ("option" : Str) ≠ "round" := by decide +kernel
    have h1 : optsM (manyW "option" ["on"] k) 7 [] 0 = .ok (optsN 6) 18 := by
      have := opts_pre (ws := manyW "option" ["on"] k) (optsN 6) 1 [] 0 sl (by rw [optsN_n]; exact nS_new (by omega)) (by unfold optsN; rw [List.length_map]; decide)
      rw [l6] at this
      rw [show 7 = (optsN 6).length + 1 from rfl, this]
      unfold optsM
      rw [if_neg fun z => absurd z.2 (by unfold optsN; rw [List.nil_append, List.length_map]; decide)]
      rfl
    exact stuck h1 (vars_no (by rw [at18]; exact fun z => n1 (Option.some.inj z))) (fun c hc => rnds_no (by rw [hc.1, at18]; exact fun z => n2 (Option.some.inj z))) (by rw [at18]; exact fun z => by cases z)
  · refine BT.good (decide_eq_false h) (os := optsN k) (us := []) (rs := []) ⟨by rw [optsN_n]; exact nS_new (by omega), by unfold optsN; rw [List.length_map, List.length_range]; omega, new0, by decide, fun _ m => (by cases m), new0, by decide, trivial⟩ ?_ (by omega)
    show _ = fl optW (optsN k) ++ ([] ++ [])
    rw [optsN_w, List.append_nil, List.append_nil]
theorem many_var {k : Nat} (hk : k ≤ 14) : BT (manyW "var" ["7"] k) 36 (decide (12 < k)) := by
  have ll : (manyW "var" ["7"] k).length = 3 * k := many_len _ _ _
  have wd := many_wd (w := "var") (rest := ["7"]) (k := k) (by decide +kernel) (by decide +kernel) (by omega)
  have un : ∀ n, ∀ q ∈ varsN n, 1 ≤ q.2 ∧ q.2 ≤ 65535 := fun n q m => by
    obtain ⟨j, _, rfl⟩ := List.mem_map.mp m
    exact ⟨by show (1 : Int) ≤ 7; decide, by show (7 : Int) ≤ 65535; decide⟩
  by_cases h : 12 < k
  · rw [decide_eq_true h]
    refine ⟨wd, .inr (by omega), by omega, fun z => Bool.noConfusion z, fun _ => ?_⟩
    have e := many_split (w := "var") (rest := ["7"]) h
    rw [← varsN_w 12] at e
    have l6 : (fl varW (varsN 12)).length = 36 := by rw [varsN_w, many_len]; rfl
    have s0 := sub_self (manyW "var" ["7"] k)
    rw [e] at s0
    have sl := s0.left
    have sr := s0.right
    rw [← e] at sl sr
    rw [l6, Nat.zero_add] at sr
    have at36 := sr.head
    have at0 : (manyW "var" ["7"] k)[0]? = some ("var" : Str) := by
      have := many_split (w := "var") (rest := ["7"]) (n := 0) (k := k) (by omega)
      rw [this]
      rfl
    obtain ⟨n1, n2⟩ : ("var" : Str) ≠ "option" ∧ ("var" : Str) ≠ "round" := by decide +kernel
    have h2 : varsM (manyW "var" ["7"] k) 13 [] 0 = .ok (varsN 12) 36 := by
      have := vars_pre (ws := manyW "var" ["7"] k) (varsN 12) 1 [] 0 sl (by rw [varsN_n]; exact nS_new (by omega)) (un 12) (by unfold varsN; rw [List.length_map]; decide)
      rw [l6] at this
      rw [show 13 = (varsN 12).length + 1 from rfl, this]
      unfold varsM
      rw [if_neg fun z => absurd z.2 (by unfold varsN; rw [List.nil_append, List.length_map]; decide)]
      rfl
    exact stuck (opts_no (f := 6) (by rw [at0]; exact fun z => n1 (Option.some.inj z))) h2 (fun c hc => rnds_no (by rw [hc.1, at36]; exact fun z => n2 (Option.some.inj z))) (by rw [at36]; exact fun z => by cases z)
  · refine BT.good (decide_eq_false h) (os := []) (us := varsN k) (rs := []) ⟨new0, by decide, by rw [varsN_n]; exact nS_new (by omega), by unfold varsN; rw [List.length_map, List.length_range]; omega, un k, new0, by decide, trivial⟩ ?_ (by omega)
    show _ = [] ++ (fl varW (varsN k) ++ [])
    rw [varsN_w, List.append_nil, List.nil_append]
theorem many_rnd {k : Nat} (hk : k ≤ 10) : BT (manyW "round" ["end"] k) 24 (decide (8 < k)) := by
  have ll : (manyW "round" ["end"] k).length = 3 * k := many_len _ _ _
  have wd := many_wd (w := "round") (rest := ["end"]) (k := k) (by decide +kernel) (by decide +kernel) (by omega)
  by_cases h : 8 < k
  · rw [decide_eq_true h]
    refine ⟨wd, .inr (by omega), by omega, fun z => Bool.noConfusion z, fun _ => ?_⟩
    have e := many_split (w := "round") (rest := ["end"]) h
    rw [← rndsN_w 8] at e
    have l6 : (fl rndW (rndsN 8)).length = 24 := by rw [rndsN_w, many_len]; rfl
    have s0 := sub_self (manyW "round" ["end"] k)
    rw [e] at s0
    have sl := s0.left
    have sr := s0.right
    rw [← e] at sl sr
    rw [l6, Nat.zero_add] at sr
    have at24 := sr.head
    have at0 : (manyW "round" ["end"] k)[0]? = some ("round" : Str) := by
      have := many_split (w := "round") (rest := ["end"]) (n := 0) (k := k) (by omega)
      rw [this]
      rfl
    obtain ⟨n1, n2⟩ : ("round" : Str) ≠ "option" ∧ ("round" : Str) ≠ "var" := by decide +kernel
    refine stuck (opts_no (f := 6) (by rw [at0]; exact fun z => n1 (Option.some.inj z))) (vars_no (by rw [at0]; exact fun z => n2 (Option.some.inj z))) (rs := rndsN 8) (j3 := 24) (fun c hc => ?_) (by rw [at24]; exact fun z => by cases z)
    obtain ⟨c1, c2, c3, c4⟩ := hc
    have := rnds_pre (c := c) (by rw [c3]; exact fun _ m => by cases m) c4 (rndsN 8) 1 [] 0 (0, 0) (0, 0) (by rw [c1]; exact sl) (by rw [rndsN_n]; exact nS_new (by omega)) (rndsN_g _ _ _ _) (by unfold rndsN; rw [List.length_map]; decide)
    rw [l6] at this
    rw [show 9 = (rndsN 8).length + 1 from rfl, this]
    unfold rndsM
    rw [if_neg fun z => absurd z.2 (by unfold rndsN; rw [List.nil_append, List.length_map]; decide)]
    rfl
  · refine BT.good (decide_eq_false h) (os := []) (us := []) (rs := rndsN k) ⟨new0, by decide, new0, by decide, fun _ m => (by cases m), by rw [rndsN_n]; exact nS_new (by omega), by unfold rndsN; rw [List.length_map, List.length_range]; omega, grt_gr (rndsN_g _ _ _ _)⟩ ?_ (by omega)
    show _ = [] ++ ([] ++ fl rndW (rndsN k))
    rw [rndsN_w, List.nil_append, List.nil_append]
/-! #### draws and moves -/
theorem loop_to {c : CuI} {g : Nat → Nat × Nat → BkR} {lvl : Nat} (hv : ∀ x ∈ c.vars, Nm x) (se : c.se = false) (hg : ∀ l, lvl = l + 1 → RB c l g) : ∀ (ss : List St) (n i : Nat) (a b : Nat × Nat), GL c.vars c.ops ss a b → lvL ss ≤ lvl → SubAt c.ws i (blockW ss) → (∀ x, c.ws[i + (blockW ss).length]? = some x → x ∉ opensB c lvl b) → ss.length ≤ n →
    loopM (headM c lvl g) n i a = .ok ss (i + (blockW ss).length) b
  | [], 0, i, a, b, G, _, _, _, _ => by
    have e : b = a := G
    rw [e]
    rfl
  | [], n + 1, i, a, b, G, _, _, st, _ => by
    have e : b = a := G
    subst e
    have h : headM c lvl g i b = none := by
      unfold headM
      cases w : c.ws[i]? with
      | none => rfl
      | some x =>
        show (if x ∈ opensB c lvl b then _ else none) = _
        rw [if_neg (st x w)]
    unfold loopM
    rw [h]
    rfl
  | s :: r, 0, i, a, b, _, _, _, _, h => by
    rw [List.length_cons] at h
    omega
  | s :: r, n + 1, i, a, b, ⟨m, G1, G2⟩, hl, sub, st, h => by
    have hl' : max s.lv (lvL r) ≤ lvl := hl
    have bl : (blockW (s :: r)).length = s.words.length + (blockW r).length := by
      show (s.words ++ blockW r).length = _
      rw [List.length_append]
    have sub' : SubAt c.ws i (s.words ++ blockW r) := sub
    obtain ⟨h1, h2, h3⟩ := stmt_back hv se hg G1 (by omega) sub'.left
    have hh : headM c lvl g i a = some (.ok s (i + s.words.length) m) := by
      unfold headM
      rw [h2]
      show (if wd0 s ∈ opensB c lvl a then some (stmtM c g (wd0 s) (i + 1) a) else none) = _
      rw [if_pos h1, h3]
    unfold loopM
    rw [hh]
    show (match loopM (headM c lvl g) n (i + s.words.length) m with
      | .bad j' => BkR.bad j'
      | .ok ss j' st'' => .ok (s :: ss) j' st'') = _
    rw [bl, ← Nat.add_assoc] at st
    rw [loop_to hv se hg r n _ m b G2 (by omega) sub'.right st (by rw [List.length_cons] at h; omega), bl, ← Nat.add_assoc]
/-- statements are read up to a word that opens none -/
theorem block_to {c : CuI} (hv : ∀ x ∈ c.vars, Nm x) (se : c.se = false) {l : Nat} {ss : List St} {i : Nat} {a b : Nat × Nat} (G : GL c.vars c.ops ss a b) (hl : lvL ss ≤ l + 1) (sub : SubAt c.ws i (blockW ss)) (st : ∀ x, c.ws[i + (blockW ss).length]? = some x → x ∉ opensB c (l + 1) b) : blockM c (l + 1) i a = .ok ss (i + (blockW ss).length) b := by
  unfold blockM
  refine loop_to hv se (fun k z => by cases z; exact block_back hv se l) ss _ i a b G hl sub st ?_
  have := len_words ss
  by_cases z : blockW ss = []
  · rw [z] at this
    exact Nat.le_trans this (Nat.zero_le _)
  · have := sub.len z
    omega
def drawL : List Str := ["draw", "first", "second"]
def brS : List Str → Nat × Nat → List St
  | [], _ => []
  | w :: r, a => if w = "draw" then .draw "x" 2 :: brS r (a.1 + 1, a.2) else .move (if w = "first" then 1 else 2) "x" 2 ((a.2 : Nat) : Int) :: brS r (a.1, a.2 + 1)
def brW (ks : List Str) : List Str := fl (fun w => [w, "x", "2"]) ks
theorem brS_w : ∀ (ks : List Str) (a : Nat × Nat), (∀ w ∈ ks, w ∈ drawL) → blockW (brS ks a) = brW ks
  | [], _, _ => rfl
  | w :: r, a, h => by
    have e2 : numS 2 = ("2" : Str) := by decide +kernel
    have ih := fun a => brS_w r a fun z m => h z (List.mem_cons_of_mem _ m)
    have hw : w = "draw" ∨ w = "first" ∨ w = "second" := by
      rcases List.mem_cons.mp (h w List.mem_cons_self) with z | z
      · exact .inl z
      rcases List.mem_cons.mp z with z | z
      · exact .inr (.inl z)
      · exact .inr (.inr (List.mem_singleton.mp z))
    obtain ⟨n1, n2, n3⟩ : ("first" : Str) ≠ "draw" ∧ ("second" : Str) ≠ "draw" ∧ ("second" : Str) ≠ "first" := by decide +kernel
    have s1 : seatS 1 = ("first" : Str) := by decide +kernel
    have s2 : seatS 2 = ("second" : Str) := by decide +kernel
    rcases hw with rfl | rfl | rfl
    · show blockW (if ("draw" : Str) = "draw" then _ else _) = _
      rw [if_pos rfl]
      show ([("draw" : Str), "x", numS 2] : List Str) ++ blockW (brS r _) = (["draw", "x", "2"] : List Str) ++ brW r
      rw [ih, e2]
    · show blockW (if ("first" : Str) = "draw" then _ else .move (if ("first" : Str) = "first" then 1 else 2) _ _ _ :: _) = _
      rw [if_neg n1, if_pos rfl]
      show ([seatS 1, "x", numS 2] : List Str) ++ blockW (brS r _) = (["first", "x", "2"] : List Str) ++ brW r
      rw [ih, e2, s1]
    · show blockW (if ("second" : Str) = "draw" then _ else .move (if ("second" : Str) = "first" then 1 else 2) _ _ _ :: _) = _
      rw [if_neg n2, if_neg n3]
      show ([seatS 2, "x", numS 2] : List Str) ++ blockW (brS r _) = (["second", "x", "2"] : List Str) ++ brW r
      rw [ih, e2, s2]
theorem brS_g {vs os : List Str} (hx : ("x" : Str) ∈ vs) : ∀ (ks : List Str) (a : Nat × Nat), a.1 + a.2 + ks.length ≤ 24 → ∃ b, GL vs os (brS ks a) a b ∧ b.1 + b.2 = a.1 + a.2 + ks.length ∧ lvL (brS ks a) = 0
  | [], a, _ => ⟨a, rfl, rfl, rfl⟩
  | w :: r, a, h => by
    rw [List.length_cons] at h
    by_cases e : w = "draw"
    · obtain ⟨b, g, s, l⟩ := brS_g hx r (a.1 + 1, a.2) (by show a.1 + 1 + a.2 + _ ≤ _; omega)
      refine ⟨b, ?_, ?_, ?_⟩
      · unfold brS
        rw [if_pos e]
        exact ⟨_, ⟨hx, by decide, by omega, rfl⟩, g⟩
      · rw [s, List.length_cons]
        show a.1 + 1 + a.2 + _ = _
        omega
      · unfold brS
        rw [if_pos e]
        show max 0 (lvL (brS r _)) = 0
        rw [l]
        rfl
    · obtain ⟨b, g, s, l⟩ := brS_g hx r (a.1, a.2 + 1) (by show a.1 + (a.2 + 1) + _ ≤ _; omega)
      refine ⟨b, ?_, ?_, ?_⟩
      · unfold brS
        rw [if_neg e]
        exact ⟨_, ⟨by split <;> simp, hx, by decide, rfl, by omega, rfl⟩, g⟩
      · rw [s, List.length_cons]
        show a.1 + (a.2 + 1) + _ = _
        omega
      · unfold brS
        rw [if_neg e]
        show max 0 (lvL (brS r _)) = 0
        rw [l]
        rfl
theorem nm_lit : Nm "x" ∧ Nm "o" ∧ Nm "r" := by
  have t : ∀ c : Nat, ∀ x : Str, x.cps.toList = [c] → LetC c → x ∉ kwL → Nm x := fun c x e l k => ⟨⟨c, [], e, l, (fun _ m => by cases m), Nat.zero_le _⟩, k⟩
  exact ⟨t 120 _ rfl ⟨by decide, by decide⟩ (by decide +kernel), t 111 _ rfl ⟨by decide, by decide⟩ (by decide +kernel), t 114 _ rfl ⟨by decide, by decide⟩ (by decide +kernel)⟩
theorem new1 {x : Str} (h : Nm x) : NewL [] [x] := ⟨fun y m => by rw [List.mem_singleton.mp m]; exact h, List.nodup_cons.mpr ⟨by simp, List.nodup_nil⟩, fun _ _ z => by cases z⟩
def brT (ks : List Str) : List Str := (["var", "x", "9", "round", "r"] : List Str) ++ brW ks ++ (["end"] : List Str)
theorem brW_len (ks : List Str) : (brW ks).length = 3 * ks.length := fl_len ks fun _ _ => rfl
theorem brT_bt {ks : List Str} (h : ∀ w ∈ ks, w ∈ drawL) (l : ks.length ≤ 28) : BT (brT ks) 77 (decide (24 < ks.length)) := by
  have lw := brW_len ks
  have ll : (brT ks).length = 3 * ks.length + 6 := by
    unfold brT
    rw [List.length_append, List.length_append, lw]
    show 5 + _ + 1 = _
    omega
  have e9 : numS 9 = ("9" : Str) := by decide +kernel
  by_cases c : 24 < ks.length
  · rw [decide_eq_true c]
    refine ⟨fun x m => ?_, .inr (by omega), by omega, fun z => Bool.noConfusion z, fun _ => ?_⟩
    · have dl : ∀ w ∈ drawL, w ∈ litW := by decide +kernel
      unfold brT at m
      rcases List.mem_append.mp m with m | m
      · rcases List.mem_append.mp m with m | m
        · exact lit_s ((by decide +kernel : ∀ w ∈ (["var", "x", "9", "round", "r"] : List Str), w ∈ litW) x m)
        · unfold brW fl at m
          obtain ⟨q, mq, mx⟩ := List.mem_flatten.mp m
          obtain ⟨w, mw, rfl⟩ := List.mem_map.mp mq
          rcases List.mem_cons.mp mx with rfl | mx
          · exact lit_s (dl _ (h _ mw))
          · exact lit_s ((by decide +kernel : ∀ w ∈ (["x", "2"] : List Str), w ∈ litW) x mx)
      · exact lit_s ((by decide +kernel : ∀ w ∈ (["end"] : List Str), w ∈ litW) x m)
    · have k24 : (ks.take 24).length = 24 := by rw [List.length_take]; omega
      obtain ⟨w, r, er⟩ : ∃ w r, ks.drop 24 = w :: r := by
        cases e : ks.drop 24 with
        | nil =>
          have := congrArg List.length e
          rw [List.length_drop, List.length_nil] at this
          omega
        | cons w r => exact ⟨w, r, rfl⟩
      have hw : w ∈ drawL := h w (List.mem_of_mem_drop (by rw [er]; exact List.mem_cons_self))
      have ek : ks = ks.take 24 ++ w :: r := by rw [← er, List.take_append_drop]
      have eb : brW ks = brW (ks.take 24) ++ (w :: ("x" : Str) :: ("2" : Str) :: brW r) := by
        have := congrArg brW ek
        rw [this]
        unfold brW
        rw [fl_app]
        rfl
      obtain ⟨b, g, sb, lv⟩ := brS_g (vs := ["x"]) (os := []) List.mem_cons_self (ks.take 24) (0, 0) (by show 0 + 0 + _ ≤ 24; omega)
      rw [k24] at sb
      have sb' : b.1 + b.2 = 24 := sb
      have wb := brS_w (ks.take 24) (0, 0) fun z m => h z (List.mem_of_mem_take m)
      have e0 : brT ks = fl optW [] ++ (fl varW [("x", 9)] ++ (fl rndW [] ++ (("round" : Str) :: ("r" : Str) :: (brW ks ++ (["end"] : List Str))))) := by
        unfold brT
        show _ = ([("var" : Str), "x", numS 9, "round", "r"] : List Str) ++ (brW ks ++ (["end"] : List Str))
        rw [e9, List.append_assoc]
      refine badR (os := []) (us := [("x", 9)]) (rs := []) (b := (0, 0)) ⟨new0, by decide, new1 nm_lit.1, by decide, fun q m => (by rw [List.mem_singleton.mp m]; exact ⟨by show (1 : Int) ≤ 9; decide, by show (9 : Int) ≤ 65535; decide⟩), new0, by decide, rfl⟩ e0 fun c hc => ?_
      obtain ⟨c1, c2, c3, c4⟩ := hc
      show BadRnd c [] 3 (0, 0) 77
      intro f
      have s0 := sub_self (brT ks)
      rw [show brT ks = (["var", "x", "9"] : List Str) ++ (("round" : Str) :: ("r" : Str) :: (brW ks ++ (["end"] : List Str))) by unfold brT; rw [List.append_assoc]; rfl] at s0
      have s3 := s0.right
      rw [show (["var", "x", "9"] : List Str) ++ (("round" : Str) :: ("r" : Str) :: (brW ks ++ (["end"] : List Str))) = brT ks by unfold brT; rw [List.append_assoc]; rfl, ← c1] at s3
      have s3 : SubAt c.ws 3 (("round" : Str) :: ("r" : Str) :: (brW ks ++ (["end"] : List Str))) := s3
      have s5 : SubAt c.ws 5 (brW ks ++ (["end"] : List Str)) := s3.tail.tail
      rw [eb, List.append_assoc] at s5
      have s5l := s5.left
      have s5r := s5.right
      rw [brW_len, k24] at s5r
      have at77 : c.ws[77]? = some w := s5r.head
      have cv : c.vars = (["x"] : List Str) := c3
      have co : c.ops = [] := c2
      have hv : ∀ x ∈ c.vars, Nm x := by
        rw [cv]
        intro x m
        rw [List.mem_singleton.mp m]
        exact nm_lit.1
      have nob : w ∉ opensB c 8 b := by
        unfold opensB
        rw [if_neg (by omega : ¬ b.1 + b.2 < 24), co, cv]
        have : ∀ w ∈ drawL, w ∉ ((["show", "pay", "take"] : List Str) ++ (if 0 < 8 then ((["if"] : List Str) ++ if (!([] : List Str).isEmpty) = true then (["when"] : List Str) else []) else [])) ++ (if (!(["x"] : List Str).isEmpty) = true then ((["set"] : List Str) ++ []) else []) := by decide +kernel
        exact this w hw
      have bk : blockM c 8 5 (0, 0) = .ok (brS (ks.take 24) (0, 0)) 77 b := by
        have := block_to (c := c) hv c4 (l := 7) (ss := brS (ks.take 24) (0, 0)) (i := 5) (a := (0, 0)) (b := b) (by rw [cv, co]; exact g) (by omega) (by rw [wb]; exact s5l) (fun x z => by
          rw [wb, brW_len, k24] at z
          have z' : c.ws[77]? = some x := z
          rw [at77] at z'
          cases z'
          exact nob)
        rw [wb, brW_len, k24] at this
        exact this
      unfold rndsM
      rw [if_pos ⟨s3.head, by show 0 < 8; decide⟩, fresh_is s3.tail.head ⟨nm_lit.2.2, by simp⟩]
      show (match blockM c 8 5 (0, 0) with
        | .bad j => HdR.bad j
        | .ok ss j st' => if c.ws[j]? = some ("end" : Str) then rndsM c f ([] ++ [(("r" : Str), ss)]) (j + 1) st' else .bad j) = _
      rw [bk]
      show (if c.ws[77]? = some ("end" : Str) then _ else HdR.bad 77) = _
      rw [if_neg]
      rw [at77]
      intro z
      exact (by decide +kernel : ∀ w ∈ drawL, w ≠ "end") w hw (Option.some.inj z)
  · obtain ⟨b, g, sb, lv⟩ := brS_g (vs := ["x"]) (os := []) List.mem_cons_self ks (0, 0) (by show 0 + 0 + _ ≤ 24; omega)
    have wb := brS_w ks (0, 0) h
    refine BT.good (decide_eq_false c) (os := []) (us := [("x", 9)]) (rs := [("r", brS ks (0, 0))]) ⟨new0, by decide, new1 nm_lit.1, by decide, fun q m => (by rw [List.mem_singleton.mp m]; exact ⟨by show (1 : Int) ≤ 9; decide, by show (9 : Int) ≤ 65535; decide⟩), new1 nm_lit.2.2, by show 1 ≤ 8; decide, ⟨b, g, by show lvL (brS ks (0, 0)) ≤ 8; omega, trivial⟩⟩ ?_ (by omega)
    show _ = ([] : List Str) ++ (([("var" : Str), "x", numS 9] : List Str) ++ ((("round" : Str) :: ("r" : Str) :: (blockW (brS ks (0, 0)) ++ (["end"] : List Str))) ++ ([] : List Str)))
    rw [wb, e9, List.append_nil]
    unfold brT
    rw [List.append_assoc]
    rfl
/-! #### ifs in each other -/
def hdW (b : Bool) : List Str := if b = true then ["when", "o"] else ["if", "1"]
def hdsW (ts : List Bool) : List Str := fl hdW ts
def nest : List Bool → List St
  | [] => []
  | b :: r => [if b = true then .whn "o" (nest r) [] else .ite (.num 1) (nest r) []]
theorem num1 : (Ex.num 1).words = (["1"] : List Str) := by decide +kernel
theorem nest_w : ∀ ts : List Bool, blockW (nest ts) = hdsW ts ++ List.replicate ts.length ("end" : Str)
  | [] => rfl
  | b :: r => by
    have ih := nest_w r
    rw [List.length_cons, List.replicate_succ', ← List.append_assoc]
    cases b with
    | true =>
      show (("when" : Str) :: ("o" : Str) :: (blockW (nest r) ++ (([] : List Str) ++ (["end"] : List Str)))) ++ [] = (hdW true ++ hdsW r) ++ _ ++ _
      rw [ih, List.append_nil, List.nil_append]
      show ([("when" : Str), ("o" : Str)] : List Str) ++ ((hdsW r ++ List.replicate r.length ("end" : Str)) ++ (["end"] : List Str)) = (([("when" : Str), ("o" : Str)] : List Str) ++ hdsW r) ++ List.replicate r.length ("end" : Str) ++ (["end"] : List Str)
      simp only [List.append_assoc]
    | false =>
      show (("if" : Str) :: ((Ex.num 1).words ++ (blockW (nest r) ++ (([] : List Str) ++ (["end"] : List Str))))) ++ [] = (hdW false ++ hdsW r) ++ _ ++ _
      rw [ih, List.append_nil, List.nil_append, num1]
      show ([("if" : Str), ("1" : Str)] : List Str) ++ ((hdsW r ++ List.replicate r.length ("end" : Str)) ++ (["end"] : List Str)) = (([("if" : Str), ("1" : Str)] : List Str) ++ hdsW r) ++ List.replicate r.length ("end" : Str) ++ (["end"] : List Str)
      simp only [List.append_assoc]
theorem nest_g {vs os : List Str} (ho : ("o" : Str) ∈ os) : ∀ (ts : List Bool) (a : Nat × Nat), GL vs os (nest ts) a a
  | [], _ => rfl
  | b :: r, a => by
    have ih := nest_g (vs := vs) ho r a
    cases b with
    | true => exact ⟨a, ⟨ho, a, ih, rfl⟩, rfl⟩
    | false => exact ⟨a, ⟨⟨⟨by decide, by decide⟩, by decide, trivial⟩, a, ih, rfl⟩, rfl⟩
theorem nest_l : ∀ ts : List Bool, lvL (nest ts) = ts.length
  | [] => rfl
  | b :: r => by
    have ih := nest_l r
    cases b with
    | true =>
      show max (max (lvL (nest r)) 0 + 1) 0 = r.length + 1
      omega
    | false =>
      show max (max (lvL (nest r)) 0 + 1) 0 = r.length + 1
      omega
theorem hdsW_len (ts : List Bool) : (hdsW ts).length = 2 * ts.length := fl_len ts fun b _ => by cases b <;> rfl
theorem opB0 {c : CuI} {a : Nat × Nat} {w : Str} (hw : w = "if" ∨ w = "when") : w ∉ opensB c 0 a := fun m => by
  have t : ∀ y ∈ ((["show", "pay", "take"] : List Str) ++ ((["set"] : List Str) ++ (["draw", "first", "second"] : List Str))), y ≠ "if" ∧ y ≠ "when" := by decide +kernel
  have mm : w ∈ ((["show", "pay", "take"] : List Str) ++ ((["set"] : List Str) ++ (["draw", "first", "second"] : List Str))) := by
    unfold opensB at m
    rw [if_neg (Nat.lt_irrefl 0), List.append_nil] at m
    rcases List.mem_append.mp m with m | m
    · exact List.mem_append_left _ m
    · refine List.mem_append_right _ ?_
      split at m
      · rcases List.mem_append.mp m with m | m
        · exact List.mem_append_left _ m
        · split at m
          · exact List.mem_append_right _ m
          · cases m
      · cases m
  rcases hw with z | z
  · exact (t w mm).1 z
  · exact (t w mm).2 z
theorem hd_first (b : Bool) : ∃ w u, hdW b = [w, u] ∧ (w = "if" ∨ w = "when") := by
  cases b
  · exact ⟨_, _, rfl, .inl rfl⟩
  · exact ⟨_, _, rfl, .inr rfl⟩
theorem deep_bad {c : CuI} (hv : ∀ x ∈ c.vars, Nm x) (se : c.se = false) (ho : ("o" : Str) ∈ c.ops) : ∀ (l : Nat) (ts : List Bool) (i : Nat) (a : Nat × Nat), l + 1 ≤ ts.length → SubAt c.ws i (hdsW ts) → blockM c l i a = if l = 0 then .ok [] i a else .bad (i + 2 * l)
  | 0, [], _, _, h, _ => absurd h (by simp)
  | 0, b :: r, i, a, _, sub => by
    rw [if_pos rfl]
    obtain ⟨w, u, e, hw⟩ := hd_first b
    have s1 : SubAt c.ws i (hdW b ++ hdsW r) := sub
    rw [e] at s1
    have h : headM c 0 (fun j st => .ok [] j st) i a = none := by
      unfold headM
      rw [s1.left.head]
      show (if w ∈ opensB c 0 a then _ else none) = _
      rw [if_neg (opB0 hw)]
    unfold blockM loopM
    rw [h]
  | l + 1, [], _, _, h, _ => absurd h (by simp)
  | l + 1, b :: r, i, a, h, sub => by
    rw [List.length_cons] at h
    have s1 : SubAt c.ws i (hdW b ++ hdsW r) := sub
    have l2 : (hdW b).length = 2 := by cases b <;> rfl
    have s2 := s1.right
    rw [l2] at s2
    have ih := deep_bad hv se ho l r (i + 2) a (by omega) s2
    rw [if_neg (Nat.succ_ne_zero l)]
    obtain ⟨w2, h2, n2⟩ : ∃ w2, c.ws[i + 2]? = some w2 ∧ (w2 = "if" ∨ w2 = "when") := by
      cases r with
      | nil => simp at h
      | cons b2 r2 =>
        obtain ⟨w, u, e, hw⟩ := hd_first b2
        have s3 : SubAt c.ws (i + 2) (hdW b2 ++ hdsW r2) := s2
        rw [e] at s3
        exact ⟨w, s3.left.head, hw⟩
    have ne : c.ws[i + 2]? ≠ some ("else" : Str) ∧ c.ws[i + 2]? ≠ some ("end" : Str) := by
      rw [h2]
      rcases n2 with rfl | rfl
      · exact ⟨fun z => absurd (Option.some.inj z) (by decide +kernel), fun z => absurd (Option.some.inj z) (by decide +kernel)⟩
      · exact ⟨fun z => absurd (Option.some.inj z) (by decide +kernel), fun z => absurd (Option.some.inj z) (by decide +kernel)⟩
    have br : ∀ mk, branchM c (blockM c l) mk (i + 2) a = .bad (i + 2 * (l + 1)) := fun mk => by
      unfold branchM
      rw [ih]
      by_cases z : l = 0
      · subst z
        rw [if_pos rfl]
        show (if c.ws[i + 2]? = some ("else" : Str) then _ else endM c (mk [] []) (i + 2) a) = _
        rw [if_neg ne.1]
        unfold endM
        rw [if_neg ne.2]
      · rw [if_neg z]
        show StR.bad (i + 2 + 2 * l) = _
        rw [show i + 2 + 2 * l = i + 2 * (l + 1) by omega]
    have hh : headM c (l + 1) (blockM c l) i a = some (.bad (i + 2 * (l + 1))) := by
      cases b with
      | true =>
        have s3 : SubAt c.ws i (("when" : Str) :: ("o" : Str) :: hdsW r) := s1
        unfold headM
        rw [s3.head]
        show (if ("when" : Str) ∈ opensB c (l + 1) a then some (stmtM c (blockM c l) "when" (i + 1) a) else none) = _
        rw [if_pos (opB_when (Nat.succ_pos l) ho)]
        unfold stmtM
        rw [if_neg (by decide +kernel : ("when" : Str) ≠ "if"), if_pos rfl, nameM_is s3.tail.head ho]
        show some (branchM c (blockM c l) (.whn "o") (i + 2) a) = _
        rw [br]
      | false =>
        have s3 : SubAt c.ws i (("if" : Str) :: ((Ex.num 1).words ++ hdsW r)) := by
          rw [num1]
          exact s1
        unfold headM
        rw [s3.head]
        show (if ("if" : Str) ∈ opensB c (l + 1) a then some (stmtM c (blockM c l) "if" (i + 1) a) else none) = _
        rw [if_pos (opB_if (Nat.succ_pos l))]
        unfold stmtM
        rw [if_pos rfl, read_e hv (e := .num 1) (room := 12) ⟨by decide, by decide⟩ trivial (by decide) s3.tail.left, num1]
        show some (branchM c (blockM c l) (.ite (.num 1)) (i + 2) a) = _
        rw [br]
    unfold blockM loopM
    rw [hh]
def deepT (ts : List Bool) : List Str := (["option", "o", "on", "round", "r"] : List Str) ++ hdsW ts ++ List.replicate ts.length ("end" : Str) ++ (["end"] : List Str)
theorem deepT_bt {ts : List Bool} (h : ts.length ≤ 10) : BT (deepT ts) 21 (decide (8 < ts.length)) := by
  have lh := hdsW_len ts
  have ll : (deepT ts).length = 3 * ts.length + 6 := by
    unfold deepT
    rw [List.length_append, List.length_append, List.length_append, lh, List.length_replicate]
    show 5 + _ + _ + 1 = _
    omega
  by_cases c : 8 < ts.length
  · rw [decide_eq_true c]
    refine ⟨fun x m => ?_, .inr (by omega), by omega, fun z => Bool.noConfusion z, fun _ => ?_⟩
    · unfold deepT at m
      rcases List.mem_append.mp m with m | m
      · rcases List.mem_append.mp m with m | m
        · rcases List.mem_append.mp m with m | m
          · exact lit_s ((by decide +kernel : ∀ w ∈ (["option", "o", "on", "round", "r"] : List Str), w ∈ litW) x m)
          · unfold hdsW fl at m
            obtain ⟨q, mq, mx⟩ := List.mem_flatten.mp m
            obtain ⟨b, mw, rfl⟩ := List.mem_map.mp mq
            cases b
            · exact lit_s ((by decide +kernel : ∀ w ∈ hdW false, w ∈ litW) x mx)
            · exact lit_s ((by decide +kernel : ∀ w ∈ hdW true, w ∈ litW) x mx)
        · rw [List.eq_of_mem_replicate m]
          exact lit_s (by decide +kernel)
      · rw [List.mem_singleton.mp m]
        exact lit_s (by decide +kernel)
    · have e0 : deepT ts = fl optW [(("o" : Str), true)] ++ (fl varW [] ++ (fl rndW [] ++ (("round" : Str) :: ("r" : Str) :: (hdsW ts ++ (List.replicate ts.length ("end" : Str) ++ (["end"] : List Str)))))) := by
        unfold deepT
        rw [List.append_assoc, List.append_assoc]
        rfl
      refine badR (os := [(("o" : Str), true)]) (us := []) (rs := []) (b := (0, 0)) ⟨new1 nm_lit.2.1, by show 1 ≤ 6; decide, new0, by decide, (fun _ m => by cases m), new0, by decide, rfl⟩ e0 fun c hc => ?_
      obtain ⟨c1, c2, c3, c4⟩ := hc
      show BadRnd c [] 3 (0, 0) 21
      intro f
      have s3 : SubAt c.ws 3 (("round" : Str) :: ("r" : Str) :: (hdsW ts ++ (List.replicate ts.length ("end" : Str) ++ (["end"] : List Str)))) := by
        rw [c1]
        have s0 := sub_self (deepT ts)
        rw [show deepT ts = (["option", "o", "on"] : List Str) ++ (("round" : Str) :: ("r" : Str) :: (hdsW ts ++ (List.replicate ts.length ("end" : Str) ++ (["end"] : List Str)))) by unfold deepT; rw [List.append_assoc, List.append_assoc]; rfl] at s0 ⊢
        exact s0.right
      have co : ("o" : Str) ∈ c.ops := by
        rw [c2]
        exact List.mem_cons_self
      have hv : ∀ x ∈ c.vars, Nm x := by
        rw [c3]
        exact fun _ m => by cases m
      have bk := deep_bad hv c4 co 8 ts 5 (0, 0) (by omega) s3.tail.tail.left
      rw [if_neg (by decide)] at bk
      unfold rndsM
      rw [if_pos ⟨s3.head, by show 0 < 8; decide⟩, fresh_is s3.tail.head ⟨nm_lit.2.2, by simp⟩]
      show (match blockM c 8 5 (0, 0) with
        | .bad j => HdR.bad j
        | .ok ss j st' => if c.ws[j]? = some ("end" : Str) then rndsM c f ([] ++ [(("r" : Str), ss)]) (j + 1) st' else .bad j) = _
      rw [bk]
  · refine BT.good (decide_eq_false c) (os := [(("o" : Str), true)]) (us := []) (rs := [(("r" : Str), nest ts)]) ⟨new1 nm_lit.2.1, by show 1 ≤ 6; decide, new0, by decide, (fun _ m => by cases m), new1 nm_lit.2.2, by show 1 ≤ 8; decide, ⟨_, nest_g List.mem_cons_self ts _, by show lvL (nest ts) ≤ 8; rw [nest_l]; omega, trivial⟩⟩ ?_ (by omega)
    show _ = ([("option" : Str), ("o" : Str), ("on" : Str)] : List Str) ++ (([] : List Str) ++ ((("round" : Str) :: ("r" : Str) :: (blockW (nest ts) ++ (["end"] : List Str))) ++ ([] : List Str)))
    rw [nest_w, List.append_nil, List.nil_append]
    unfold deepT
    rw [List.append_assoc, List.append_assoc, List.append_assoc]
    rfl
/-! #### deep expressions -/
def rgt (s : Str) : Nat → Ex
  | 0 => .num 1
  | n + 1 => .op s (.num 1) (rgt s n)
def lft (s : Str) : Nat → Ex
  | 0 => .num 1
  | n + 1 => .op s (lft s n) (.num 1)
theorem rgt_w (s : Str) : ∀ n, (rgt s n).words = (List.replicate n ([s, "1"] : List Str)).flatten ++ (["1"] : List Str)
  | 0 => num1
  | n + 1 => by
    show s :: ((Ex.num 1).words ++ (rgt s n).words) = _
    rw [num1, rgt_w s n, List.replicate_succ, List.flatten_cons]
    rfl
theorem lft_w (s : Str) : ∀ n, (lft s n).words = List.replicate n s ++ List.replicate (n + 1) ("1" : Str)
  | 0 => num1
  | n + 1 => by
    show s :: ((lft s n).words ++ (Ex.num 1).words) = _
    rw [num1, lft_w s n, List.replicate_succ (n := n), List.replicate_succ' (n := n + 1), List.append_assoc]
    rfl
theorem rgt_d (s : Str) : ∀ n, (rgt s n).deep = n + 1
  | 0 => rfl
  | n + 1 => by
    show max 1 (rgt s n).deep + 1 = _
    rw [rgt_d s n]
    omega
theorem lft_d (s : Str) : ∀ n, (lft s n).deep = n + 1
  | 0 => rfl
  | n + 1 => by
    show max (lft s n).deep 1 + 1 = _
    rw [lft_d s n]
    omega
theorem rgt_wf {s : Str} (h : s ∈ opL) {vs os : List Str} : ∀ n, (rgt s n).Wf vs os ∧ (rgt s n).Se false
  | 0 => ⟨⟨by decide, by decide⟩, trivial⟩
  | n + 1 => ⟨⟨h, ⟨by decide, by decide⟩, (rgt_wf h n).1⟩, trivial, (rgt_wf (vs := vs) (os := os) h n).2⟩
theorem lft_wf {s : Str} (h : s ∈ opL) {vs os : List Str} : ∀ n, (lft s n).Wf vs os ∧ (lft s n).Se false
  | 0 => ⟨⟨by decide, by decide⟩, trivial⟩
  | n + 1 => ⟨⟨h, (lft_wf h n).1, ⟨by decide, by decide⟩⟩, (lft_wf (vs := vs) (os := os) h n).2, trivial⟩
theorem rgt_bad (s : Str) : ∀ (n l : Nat), l ≤ 12 → 12 < l + n → fbad 12 ((rgt s n).rows l) = some (2 * (12 - l))
  | 0, l, h1, h2 => by omega
  | n + 1, l, h1, h2 => by
    show (if 12 < l + 1 then some 0 else (if 12 < l + 1 then some 0 else (fbad 12 ((rgt s n).rows (l + 1))).map (· + 1)).map (· + 1)) = _
    by_cases z : 12 < l + 1
    · rw [if_pos z, show l = 12 by omega]
    · rw [if_neg z, if_neg z, rgt_bad s n (l + 1) (by omega) (by omega)]
      show some (2 * (12 - (l + 1)) + 1 + 1) = _
      rw [show 2 * (12 - (l + 1)) + 1 + 1 = 2 * (12 - l) by omega]
theorem lft_bad (s : Str) : ∀ (n l : Nat), l ≤ 12 → 12 < l + n → fbad 12 ((lft s n).rows l) = some (12 - l)
  | 0, l, h1, h2 => by omega
  | n + 1, l, h1, h2 => by
    show (if 12 < l + 1 then some 0 else (fbad 12 ((lft s n).rows (l + 1) ++ (Ex.num 1).rows (l + 1))).map (· + 1)) = _
    by_cases z : 12 < l + 1
    · rw [if_pos z, show l = 12 by omega]
    · rw [if_neg z, fbad_app, lft_bad s n (l + 1) (by omega) (by omega)]
      show some (12 - (l + 1) + 1) = _
      rw [show 12 - (l + 1) + 1 = 12 - l by omega]
def exprT (e : Ex) : List Str := (["round", "r", "pay"] : List Str) ++ (e.words ++ (["end"] : List Str))
theorem expr_bt {e : Ex} {m : Nat} {w : Bool} (wf : e.Wf [] []) (se : e.Se false) (hw : w = true → fbad 12 (e.rows 1) = some m) (hg : w = false → e.deep ≤ 12) (wd : ∀ x ∈ e.words, WdS x) (l : e.words.length ≤ 100) : BT (exprT e) (3 + m) w := by
  have ll : (exprT e).length = e.words.length + 4 := by
    unfold exprT
    rw [List.length_append, List.length_append]
    show 3 + (_ + 1) = _
    omega
  cases w with
  | true =>
    refine ⟨fun x m => ?_, .inr (by omega), by omega, fun z => Bool.noConfusion z, fun _ => ?_⟩
    · unfold exprT at m
      rcases List.mem_append.mp m with m | m
      · exact lit_s ((by decide +kernel : ∀ w ∈ (["round", "r", "pay"] : List Str), w ∈ litW) x m)
      rcases List.mem_append.mp m with m | m
      · exact wd x m
      · rw [List.mem_singleton.mp m]
        exact lit_s (by decide +kernel)
    · refine badR (os := []) (us := []) (rs := []) (b := (0, 0)) (x := "r") (rest := ("pay" : Str) :: (e.words ++ (["end"] : List Str))) ⟨new0, by decide, new0, by decide, (fun _ m => by cases m), new0, by decide, rfl⟩ rfl fun c hc => ?_
      obtain ⟨c1, c2, c3, c4⟩ := hc
      have s0 : SubAt c.ws 0 (("round" : Str) :: ("r" : Str) :: ("pay" : Str) :: (e.words ++ (["end"] : List Str))) := by
        rw [c1]
        exact sub_self _
      have hv : ∀ x ∈ c.vars, Nm x := by
        rw [c3]
        exact fun _ m => by cases m
      obtain ⟨k1, k2, k3, k4, k5⟩ : ("pay" : Str) ≠ "if" ∧ ("pay" : Str) ≠ "when" ∧ ("pay" : Str) ≠ "show" ∧ ("pay" : Str) ≠ "set" ∧ ("pay" : Str) ∉ (["draw", "first", "second"] : List Str) := by decide +kernel
      show BadRnd c [] 0 (0, 0) (3 + m)
      refine rnd_bad (x := "r") (w := "pay") s0.head (by decide) s0.tail.head ⟨nm_lit.2.2, by simp⟩ s0.tail.tail.head (.inr ⟨opB_base (by decide +kernel), ?_⟩)
      unfold stmtM
      rw [if_neg k1, if_neg k2, if_neg k3, if_neg k4, if_neg k5]
      unfold exprM
      have := read_rows hv e 12 1 3 12 (by rw [c2, c3]; exact wf) (by rw [c4]; exact se) (by decide) (by decide) (by rw [rows_words]; exact s0.tail.tail.tail.left)
      rw [hw rfl] at this
      have this : readM c 12 3 = .bad (3 + m) := this
      show (match readM c 12 3 with
        | .bad j => StR.bad j
        | .ok e j => .ok (.pay "pay" e) j (0, 0)) = _
      rw [this]
  | false =>
    refine BT.good rfl (os := []) (us := []) (rs := [(("r" : Str), [.pay "pay" e])]) ⟨new0, by decide, new0, by decide, (fun _ m => by cases m), new1 nm_lit.2.2, by show 1 ≤ 8; decide, ⟨_, ⟨_, ⟨.inl rfl, ⟨wf, hg rfl, se⟩, rfl⟩, rfl⟩, by show max 0 0 ≤ 8; decide, trivial⟩⟩ ?_ (by omega)
    show _ = ([] : List Str) ++ (([] : List Str) ++ ((("round" : Str) :: ("r" : Str) :: (((("pay" : Str) :: e.words) ++ []) ++ (["end"] : List Str))) ++ ([] : List Str)))
    rw [List.append_nil, List.append_nil]
    rfl
theorem op_lit {s : Str} (h : s ∈ opL) : s ∈ litW := (by decide +kernel : ∀ s ∈ opL, s ∈ litW) s h
theorem rgt_bt {s : Str} (h : s ∈ opL) {n : Nat} (hn : n ≤ 14) : BT (exprT (rgt s n)) 25 (decide (11 < n)) := by
  obtain ⟨w1, w2⟩ := rgt_wf h (vs := []) (os := []) n
  have lf : ((List.replicate n ([s, "1"] : List Str)).flatten).length = 2 * n := by
    simp
    omega
  refine expr_bt (m := 22) w1 w2 (fun z => rgt_bad s n 1 (by decide) (by have := of_decide_eq_true z; omega)) (fun z => by rw [rgt_d]; have := of_decide_eq_false z; omega) (fun x m => ?_) (by rw [rgt_w, List.length_append, lf]; show _ + 1 ≤ 100; omega)
  rw [rgt_w] at m
  rcases List.mem_append.mp m with m | m
  · obtain ⟨q, mq, mx⟩ := List.mem_flatten.mp m
    rw [List.eq_of_mem_replicate mq] at mx
    rcases List.mem_cons.mp mx with rfl | mx
    · exact lit_s (op_lit h)
    · rw [List.mem_singleton.mp mx]
      exact lit_s (by decide +kernel)
  · rw [List.mem_singleton.mp m]
    exact lit_s (by decide +kernel)
theorem lft_bt {s : Str} (h : s ∈ opL) {n : Nat} (hn : n ≤ 14) : BT (exprT (lft s n)) 14 (decide (11 < n)) := by
  obtain ⟨w1, w2⟩ := lft_wf h (vs := []) (os := []) n
  refine expr_bt (m := 11) w1 w2 (fun z => lft_bad s n 1 (by decide) (by have := of_decide_eq_true z; omega)) (fun z => by rw [lft_d]; have := of_decide_eq_false z; omega) (fun x m => ?_) (by rw [lft_w, List.length_append, List.length_replicate, List.length_replicate]; omega)
  rw [lft_w] at m
  rcases List.mem_append.mp m with m | m
  · rw [List.eq_of_mem_replicate m]
    exact lit_s (op_lit h)
  · rw [List.eq_of_mem_replicate m]
    exact lit_s (by decide +kernel)
/-! #### numbers -/
theorem num_out {ws : List Str} {lo hi i n : Nat} (e : ws[i]? = some (numS ((n : Nat) : Int))) (h : n < lo ∨ hi < n) : numM ws lo hi i = none := numM_none fun x v ex f => by
  obtain ⟨m, _, h2, h3, h4, _⟩ := f
  rw [e] at ex
  cases ex
  have en : (numS ((n : Nat) : Int)).cps.toList = TL.numL n := TL.tl_num n
  have := TL.numL_inj (en.symm.trans h2)
  omega
theorem num_s {n : Nat} (h : n < 100000) : WdS (numS ((n : Nat) : Int)) := by
  have en : (numS ((n : Nat) : Int)).cps.toList = TL.numL n := TL.tl_num n
  refine ⟨fun c m => ?_, ?_⟩
  · rw [en] at m
    have := TL.numL_digits n c m
    omega
  · show (numS ((n : Nat) : Int)).cps.toList.length ≤ 40
    rw [en]
    have := TL.numL_len (n := n) (k := 5) (by decide) (by omega)
    omega
def szT (n : Nat) : List Str := [("var" : Str), "x", numS ((n : Nat) : Int)]
theorem szT_bt {n : Nat} (h : n ≤ 65536) : BT (szT n) 2 (decide (n = 0 ∨ 65535 < n)) := by
  by_cases c : n = 0 ∨ 65535 < n
  · rw [decide_eq_true c]
    refine ⟨fun x m => ?_, .inr (by show 2 ≤ 3; decide), by show 3 ≤ 200; decide, fun z => Bool.noConfusion z, fun _ => ?_⟩
    · rcases List.mem_cons.mp m with rfl | m
      · exact lit_s (by decide +kernel)
      rcases List.mem_cons.mp m with rfl | m
      · exact lit_s (by decide +kernel)
      · rw [List.mem_singleton.mp m]
        exact num_s (by omega)
    · intro K C B H Q E k
      have o : optsM (szT n) 7 [] 0 = .ok [] 0 := opts_no (f := 6) fun z => absurd (Option.some.inj z) (by decide +kernel)
      have v : varsM (szT n) 13 [] 0 = .bad 2 := by
        unfold varsM
        rw [if_pos ⟨rfl, by show 0 < 12; decide⟩, fresh_is (x := "x") rfl ⟨nm_lit.1, by simp⟩]
        show (match numM (szT n) 1 65535 2 with
          | none => HdR.bad 2
          | some y => varsM (szT n) 12 ([] ++ [(("x" : Str), ((y : Nat) : Int))]) 3) = _
        rw [num_out (n := n) rfl (by omega)]
      unfold GmK
      rw [o]
      show (match varsM (szT n) 13 [] 0 with
        | .bad j => _
        | .ok us j => _)
      rw [v]
      exact k
  · refine BT.good (decide_eq_false c) (os := []) (us := [(("x" : Str), ((n : Nat) : Int))]) (rs := []) ⟨new0, by decide, new1 nm_lit.1, by show 1 ≤ 12; decide, (fun q m => by rw [List.mem_singleton.mp m]; show 1 ≤ ((n : Nat) : Int) ∧ ((n : Nat) : Int) ≤ 65535; omega), new0, by decide, trivial⟩ rfl (by show 3 ≤ 200; decide)
def chT (w : Str) (n : Nat) : List Str := [("var" : Str), "x", "9", "round", "r", w, "x", numS ((n : Nat) : Int), "end"]
theorem chT_bt {w : Str} {n : Nat} (hw : w ∈ drawL) (h : n ≤ 70) : BT (chT w n) 7 (decide (n = 0 ∨ (if w = "draw" then 64 else 8) < n)) := by
  have e9 : numS 9 = ("9" : Str) := by decide +kernel
  have hw' : w = "draw" ∨ w = "first" ∨ w = "second" := by
    rcases List.mem_cons.mp hw with z | z
    · exact .inl z
    rcases List.mem_cons.mp z with z | z
    · exact .inr (.inl z)
    · exact .inr (.inr (List.mem_singleton.mp z))
  have k : ∀ w ∈ drawL, w ≠ "if" ∧ w ≠ "when" ∧ w ≠ "show" ∧ w ≠ "set" ∧ w ∈ (["draw", "first", "second"] : List Str) := by decide +kernel
  obtain ⟨k1, k2, k3, k4, k5⟩ := k w hw
  have un : ∀ q ∈ [(("x" : Str), (9 : Int))], 1 ≤ q.2 ∧ q.2 ≤ 65535 := fun q m => by rw [List.mem_singleton.mp m]; exact ⟨by show (1 : Int) ≤ 9; decide, by show (9 : Int) ≤ 65535; decide⟩
  by_cases c : n = 0 ∨ (if w = "draw" then 64 else 8) < n
  · rw [decide_eq_true c]
    refine ⟨fun x m => ?_, .inr (by show 2 ≤ 9; decide), by show 9 ≤ 200; decide, fun z => Bool.noConfusion z, fun _ => ?_⟩
    · have m' : x ∈ (["var", "x", "9", "round", "r"] : List Str) ++ (w :: ("x" : Str) :: (numS ((n : Nat) : Int)) :: (["end"] : List Str)) := m
      rcases List.mem_append.mp m' with m | m
      · exact lit_s ((by decide +kernel : ∀ w ∈ (["var", "x", "9", "round", "r"] : List Str), w ∈ litW) x m)
      rcases List.mem_cons.mp m with rfl | m
      · exact lit_s ((by decide +kernel : ∀ w ∈ drawL, w ∈ litW) _ hw)
      rcases List.mem_cons.mp m with rfl | m
      · exact lit_s (by decide +kernel)
      rcases List.mem_cons.mp m with rfl | m
      · exact num_s (by omega)
      · rw [List.mem_singleton.mp m]
        exact lit_s (by decide +kernel)
    · have e0 : chT w n = fl optW [] ++ (fl varW [(("x" : Str), 9)] ++ (fl rndW [] ++ (("round" : Str) :: ("r" : Str) :: ([w, ("x" : Str), numS ((n : Nat) : Int), ("end" : Str)] : List Str)))) := by
        show _ = ([("var" : Str), "x", numS 9] : List Str) ++ _
        rw [e9]
        rfl
      refine badR (os := []) (us := [(("x" : Str), 9)]) (rs := []) (b := (0, 0)) ⟨new0, by decide, new1 nm_lit.1, by show 1 ≤ 12; decide, un, new0, by decide, rfl⟩ e0 fun c1 hc => ?_
      obtain ⟨c1', c2, c3, c4⟩ := hc
      have cv : ("x" : Str) ∈ c1.vars := by
        rw [c3]
        exact List.mem_cons_self
      have s3 : SubAt c1.ws 3 (("round" : Str) :: ("r" : Str) :: ([w, ("x" : Str), numS ((n : Nat) : Int), ("end" : Str)] : List Str)) := by
        rw [c1']
        exact (show SubAt (chT w n) 0 (([("var" : Str), "x", "9"] : List Str) ++ (("round" : Str) :: ("r" : Str) :: ([w, ("x" : Str), numS ((n : Nat) : Int), ("end" : Str)] : List Str))) from sub_self _).right
      show BadRnd c1 [] 3 (0, 0) 7
      refine rnd_bad (x := "r") (w := w) s3.head (by decide) s3.tail.head ⟨nm_lit.2.2, by simp⟩ s3.tail.tail.head (.inr ⟨opB_draw cv (by decide) k5, ?_⟩)
      unfold stmtM
      rw [if_neg k1, if_neg k2, if_neg k3, if_neg k4, if_pos k5]
      unfold choiceM
      rw [nameM_is s3.tail.tail.tail.head cv]
      show (if w = "draw" then (match numM c1.ws 1 64 7 with
          | none => StR.bad 7
          | some n => .ok (.draw "x" n) 8 (0 + 1, 0))
        else match numM c1.ws 1 8 7 with
          | none => .bad 7
          | some n => .ok (.move (seatN w) "x" n ((0 : Nat) : Int)) 8 (0, 0 + 1)) = _
      have at7 : c1.ws[7]? = some (numS ((n : Nat) : Int)) := s3.tail.tail.tail.tail.head
      by_cases z : w = "draw"
      · rw [if_pos z] at c ⊢
        rw [num_out at7 (by omega)]
      · rw [if_neg z] at c ⊢
        rw [num_out at7 (by omega)]
  · have s1 : seatS 1 = ("first" : Str) := by decide +kernel
    have s2 : seatS 2 = ("second" : Str) := by decide +kernel
    have mk : ∀ st : St, st.words = [w, ("x" : Str), numS ((n : Nat) : Int)] → st.lv = 0 → (∃ b, St.G ["x"] [] st (0, 0) b) → BT (chT w n) 7 (decide (n = 0 ∨ (if w = "draw" then 64 else 8) < n)) := fun st ew el ⟨b, g⟩ => by
      refine BT.good (decide_eq_false c) (os := []) (us := [(("x" : Str), 9)]) (rs := [(("r" : Str), [st])]) ⟨new0, by decide, new1 nm_lit.1, by show 1 ≤ 12; decide, un, new1 nm_lit.2.2, by show 1 ≤ 8; decide, ⟨_, ⟨_, g, rfl⟩, by show max st.lv 0 ≤ 8; omega, trivial⟩⟩ ?_ (by show 9 ≤ 200; decide)
      show _ = ([] : List Str) ++ (([("var" : Str), "x", numS 9] : List Str) ++ ((("round" : Str) :: ("r" : Str) :: ((st.words ++ []) ++ (["end"] : List Str))) ++ ([] : List Str)))
      rw [e9, ew]
      rfl
    rcases hw' with rfl | rfl | rfl
    · rw [if_pos rfl] at c
      exact mk (.draw "x" ((n : Nat) : Int)) rfl rfl ⟨_, List.mem_cons_self, by omega, by decide, rfl⟩
    · rw [if_neg (by decide +kernel)] at c
      exact mk (.move 1 "x" ((n : Nat) : Int) 0) (by show [seatS 1, _, _] = _; rw [s1]) rfl ⟨_, .inl rfl, List.mem_cons_self, by omega, rfl, by decide, rfl⟩
    · rw [if_neg (by decide +kernel)] at c
      exact mk (.move 2 "x" ((n : Nat) : Int) 0) (by show [seatS 2, _, _] = _; rw [s2]) rfl ⟨_, .inr rfl, List.mem_cons_self, by omega, rfl, by decide, rfl⟩
/-! #### else -/
def payL (s : Str) (z : Int) (k : Nat) : List St := List.replicate k (.pay s (.num z))
theorem payL_w {s z : Str} {n : Int} (e : (Ex.num n).words = [z]) : ∀ k, blockW (payL s n k) = (List.replicate k ([s, z] : List Str)).flatten
  | 0 => rfl
  | k + 1 => by
    have ih := payL_w (s := s) e k
    unfold payL at ih ⊢
    rw [List.replicate_succ, List.replicate_succ, List.flatten_cons]
    show (s :: (Ex.num n).words) ++ blockW _ = _
    rw [ih, e]
theorem payL_g {s : Str} {z : Int} {vs os : List Str} (hs : s = "pay" ∨ s = "take") (hz : 0 ≤ z ∧ z ≤ 65535) (a : Nat × Nat) : ∀ k, GL vs os (payL s z k) a a
  | 0 => rfl
  | k + 1 => ⟨a, ⟨hs, ⟨⟨hz.1, by have := hz.2; omega⟩, by show 1 ≤ 12; decide, trivial⟩, rfl⟩, payL_g hs hz a k⟩
theorem payL_l (s : Str) (z : Int) : ∀ k, lvL (payL s z k) = 0
  | 0 => rfl
  | k + 1 => by
    show max 0 (lvL (payL s z k)) = 0
    rw [payL_l s z k]
    rfl
def elsT (b : Bool) (t k : Nat) : List Str := (["option", "o", "off", "round", "r"] : List Str) ++ hdW b ++ (List.replicate t (["take", "5"] : List Str)).flatten ++ (["else"] : List Str) ++ (List.replicate k (["pay", "2"] : List Str)).flatten ++ (["end", "end"] : List Str)
def elsS (b : Bool) (t k : Nat) : St := if b = true then .whn "o" (payL "take" 5 t) (payL "pay" 2 k) else .ite (.num 1) (payL "take" 5 t) (payL "pay" 2 k)
theorem elsT_bt (b : Bool) {t k : Nat} (ht : t ≤ 2) (hk : k ≤ 3) : BT (elsT b t k) (8 + 2 * t) (decide (k = 0)) := by
  have w5 : (Ex.num 5).words = [("5" : Str)] := by decide +kernel
  have w2 : (Ex.num 2).words = [("2" : Str)] := by decide +kernel
  have lt : ∀ (n : Nat) (x y : Str), ((List.replicate n ([x, y] : List Str)).flatten).length = 2 * n := fun n x y => by
    simp
    omega
  have lh : (hdW b).length = 2 := by cases b <;> rfl
  have ll : (elsT b t k).length = 10 + 2 * t + 2 * k := by
    unfold elsT
    rw [List.length_append, List.length_append, List.length_append, List.length_append, List.length_append, lt, lt, lh]
    show 5 + 2 + _ + 1 + _ + 2 = _
    omega
  by_cases c : k = 0
  · subst c
    rw [decide_eq_true rfl]
    refine ⟨fun x m => ?_, .inr (by omega), by omega, fun z => Bool.noConfusion z, fun _ => ?_⟩
    · unfold elsT at m
      rcases List.mem_append.mp m with m | m
      · rcases List.mem_append.mp m with m | m
        · rcases List.mem_append.mp m with m | m
          · rcases List.mem_append.mp m with m | m
            · rcases List.mem_append.mp m with m | m
              · exact lit_s ((by decide +kernel : ∀ w ∈ (["option", "o", "off", "round", "r"] : List Str), w ∈ litW) x m)
              · cases b
                · exact lit_s ((by decide +kernel : ∀ w ∈ hdW false, w ∈ litW) x m)
                · exact lit_s ((by decide +kernel : ∀ w ∈ hdW true, w ∈ litW) x m)
            · obtain ⟨q, mq, mx⟩ := List.mem_flatten.mp m
              rw [List.eq_of_mem_replicate mq] at mx
              exact lit_s ((by decide +kernel : ∀ w ∈ (["take", "5"] : List Str), w ∈ litW) x mx)
          · rw [List.mem_singleton.mp m]
            exact lit_s (by decide +kernel)
        · cases m
      · exact lit_s ((by decide +kernel : ∀ w ∈ (["end", "end"] : List Str), w ∈ litW) x m)
    · have e0 : elsT b t 0 = fl optW [(("o" : Str), false)] ++ (fl varW [] ++ (fl rndW [] ++ (("round" : Str) :: ("r" : Str) :: (hdW b ++ (blockW (payL "take" 5 t) ++ (["else", "end", "end"] : List Str)))))) := by
        rw [payL_w w5]
        unfold elsT
        show _ = ([("option" : Str), "o", "off"] : List Str) ++ (([] : List Str) ++ (([] : List Str) ++ _))
        simp only [List.append_assoc, List.nil_append]
        rfl
      refine badR (os := [(("o" : Str), false)]) (us := []) (rs := []) (b := (0, 0)) ⟨new1 nm_lit.2.1, by show 1 ≤ 6; decide, new0, by decide, (fun _ m => by cases m), new0, by decide, rfl⟩ e0 fun c hc => ?_
      obtain ⟨c1, c2, c3, c4⟩ := hc
      have s3 : SubAt c.ws 3 (("round" : Str) :: ("r" : Str) :: (hdW b ++ (blockW (payL "take" 5 t) ++ (["else", "end", "end"] : List Str)))) := by
        rw [c1]
        have s0 := sub_self (elsT b t 0)
        rw [e0] at s0 ⊢
        exact s0.right
      have co : ("o" : Str) ∈ c.ops := by
        rw [c2]
        exact List.mem_cons_self
      have hv : ∀ x ∈ c.vars, Nm x := by
        rw [c3]
        exact fun _ m => by cases m
      have s5 := s3.tail.tail
      have sb := s5.right
      rw [lh] at sb
      have sb : SubAt c.ws 7 (blockW (payL "take" 5 t) ++ (["else", "end", "end"] : List Str)) := sb
      have lb : (blockW (payL "take" 5 t)).length = 2 * t := by rw [payL_w w5, lt]
      have sr := sb.right
      rw [lb] at sr
      have el := sr.head
      have en := sr.tail.head
      have g1 := block_back hv c4 7 (payL "take" 5 t) 7 (0, 0) (0, 0) (payL_g (.inr rfl) ⟨by decide, by decide⟩ _ t) (by rw [payL_l]; decide) sb.left (fun x z => by rw [lb, el] at z; exact .inr (Option.some.inj z).symm)
      rw [lb] at g1
      have g2 := block_back hv c4 7 [] (7 + 2 * t + 1) (0, 0) (0, 0) rfl (by decide) (fun j x z => by cases z) (fun x z => by
        have z' : c.ws[7 + 2 * t + 1]? = some x := z
        rw [en] at z'
        exact .inl (Option.some.inj z').symm)
      have g2 : blockM c 7 (7 + 2 * t + 1) (0, 0) = .ok [] (7 + 2 * t + 1) (0, 0) := g2
      have br : ∀ mk, branchM c (blockM c 7) mk 7 (0, 0) = .bad (8 + 2 * t) := fun mk => by
        unfold branchM
        rw [g1]
        show (if c.ws[7 + 2 * t]? = some ("else" : Str) then (match blockM c 7 (7 + 2 * t + 1) (0, 0) with
          | .bad j' => StR.bad j'
          | .ok f j' st2 => if f = [] then .bad j' else endM c (mk _ f) j' st2) else _) = _
        rw [if_pos el, g2]
        show (if ([] : List St) = [] then StR.bad (7 + 2 * t + 1) else _) = _
        rw [if_pos rfl, show 7 + 2 * t + 1 = 8 + 2 * t by omega]
      show BadRnd c [] 3 (0, 0) (8 + 2 * t)
      cases b with
      | true =>
        have s6 : SubAt c.ws 5 (("when" : Str) :: ("o" : Str) :: (blockW (payL "take" 5 t) ++ (["else", "end", "end"] : List Str))) := s5
        refine rnd_bad (x := "r") (w := "when") s3.head (by decide) s3.tail.head ⟨nm_lit.2.2, by simp⟩ s6.head (.inr ⟨opB_when (by decide) co, ?_⟩)
        unfold stmtM
        rw [if_neg (by decide +kernel : ("when" : Str) ≠ "if"), if_pos rfl, nameM_is s6.tail.head co]
        exact br _
      | false =>
        have s6 : SubAt c.ws 5 (("if" : Str) :: ((Ex.num 1).words ++ (blockW (payL "take" 5 t) ++ (["else", "end", "end"] : List Str)))) := by
          rw [num1]
          exact s5
        refine rnd_bad (x := "r") (w := "if") s3.head (by decide) s3.tail.head ⟨nm_lit.2.2, by simp⟩ s6.head (.inr ⟨opB_if (by decide), ?_⟩)
        unfold stmtM
        rw [if_pos rfl, read_e hv (e := .num 1) (room := 12) ⟨by decide, by decide⟩ trivial (by decide) s6.tail.left, num1]
        exact br _
  · have wk : blockW (payL "pay" 2 k) = (List.replicate k (["pay", "2"] : List Str)).flatten := payL_w w2 k
    have nk : payL "pay" 2 k ≠ [] := fun z => by
      have := congrArg List.length z
      unfold payL at this
      rw [List.length_replicate, List.length_nil] at this
      exact c this
    have wt : blockW (payL "take" 5 t) = (List.replicate t (["take", "5"] : List Str)).flatten := payL_w w5 t
    have g1 := payL_g (s := "take") (z := 5) (vs := []) (os := ["o"]) (.inr rfl) ⟨by decide, by decide⟩ (0, 0) t
    have g2 := payL_g (s := "pay") (z := 2) (vs := []) (os := ["o"]) (.inl rfl) ⟨by decide, by decide⟩ (0, 0) k
    have mk : ∀ st : St, st.words = hdW b ++ (blockW (payL "take" 5 t) ++ ((("else" : Str) :: blockW (payL "pay" 2 k)) ++ (["end"] : List Str))) → st.lv = 1 → (∃ b, St.G [] ["o"] st (0, 0) b) → BT (elsT b t k) (8 + 2 * t) (decide (k = 0)) := fun st ew el ⟨b', g⟩ => by
      refine BT.good (decide_eq_false c) (os := [(("o" : Str), false)]) (us := []) (rs := [(("r" : Str), [st])]) ⟨new1 nm_lit.2.1, by show 1 ≤ 6; decide, new0, by decide, (fun _ m => by cases m), new1 nm_lit.2.2, by show 1 ≤ 8; decide, ⟨_, ⟨_, g, rfl⟩, by show max st.lv 0 ≤ 8; omega, trivial⟩⟩ ?_ (by omega)
      show _ = ([("option" : Str), "o", "off"] : List Str) ++ (([] : List Str) ++ ((("round" : Str) :: ("r" : Str) :: ((st.words ++ []) ++ (["end"] : List Str))) ++ ([] : List Str)))
      rw [ew, wt, wk]
      unfold elsT
      simp only [List.append_assoc, List.append_nil, List.nil_append, List.cons_append]
    cases b with
    | true =>
      refine mk (.whn "o" (payL "take" 5 t) (payL "pay" 2 k)) ?_ ?_ ⟨_, List.mem_cons_self, _, g1, g2⟩
      · show ("when" : Str) :: ("o" : Str) :: (_ ++ ((if payL "pay" 2 k = [] then [] else _) ++ _)) = _
        rw [if_neg nk]
        rfl
      · show max (lvL _) (lvL _) + 1 = 1
        rw [payL_l, payL_l]
        rfl
    | false =>
      refine mk (.ite (.num 1) (payL "take" 5 t) (payL "pay" 2 k)) ?_ ?_ ⟨_, ⟨⟨by decide, by decide⟩, by decide, trivial⟩, _, g1, g2⟩
      · show ("if" : Str) :: ((Ex.num 1).words ++ (_ ++ ((if payL "pay" 2 k = [] then [] else _) ++ _))) = _
        rw [if_neg nk, num1]
        rfl
      · show max (lvL _) (lvL _) + 1 = 1
        rw [payL_l, payL_l]
        rfl
/-! #### a letter so many times -/
def rMulS1 : R2 := fun x y H Q => ∃ (z : Str) (n : Int) (ch : Nat), x = .str z ∧ y = .int n ∧ z.cps.toList = [ch] ∧ 1 ≤ n ∧ n ≤ 100 ∧ ∀ u : Str, u.cps.toList = List.replicate n.toNat ch → Q (.str u) H
theorem fold_rep1 (z : Array Nat) : ∀ (n : Nat) (a : Array Nat), ((List.replicate n z).foldl (fun x1 x2 => x1 ++ x2) a).toList = a.toList ++ (List.replicate n z.toList).flatten
  | 0, a => by simp
  | n + 1, a => by
    rw [List.replicate_succ, List.foldl_cons, fold_rep1 z n, List.replicate_succ, List.flatten_cons, Array.toList_append, List.append_assoc]
theorem flat_one (ch : Nat) : ∀ n : Nat, (List.replicate n [ch]).flatten = List.replicate n ch
  | 0 => rfl
  | n + 1 => by
    rw [List.replicate_succ, List.flatten_cons, flat_one ch n, List.replicate_succ]
    rfl
theorem op_mulS1 {X : Cx} : OpR X (binaryOp .Mult) rMulS1 := by
  intro pins s σ H x y v u Q I rx ry hyp
  obtain ⟨z, n, ch, rfl, rfl, ez, n1, n100, q⟩ := hyp
  obtain ⟨t, rfl⟩ := rx
  obtain ⟨tk, rfl⟩ := ry
  have hz : z.length = 1 := by
    show z.cps.toList.length = 1
    rw [ez]
    rfl
  have c1 : ¬ n < 1 := by omega
  refine P.mul_str ?_ (fun _ _ => ?_) (fun _ _ => ?_) ?_
  · rw [Bool.or_eq_false_iff, decide_eq_false_iff_not, decide_eq_false_iff_not]
    omega
  · rw [hz]
    have h1 : (1 : Int) ≤ (2 ^ 63 - 1) / n := by
      rw [Int.le_ediv_iff_mul_le (by omega)]
      omega
    show ¬ ((1 : Nat) : Int) > (2 ^ 63 - 1) / n
    omega
  · rw [hz, Nat.one_mul]
    unfold Builtin.Str.tooLong
    rw [decide_eq_false_iff_not, sizeLine_eq]
    omega
  · rw [if_neg c1]
    by_cases c2 : (n == 1 || z.length == 0) = true
    · rw [if_pos c2]
      have e1 : n = 1 := by
        rw [Bool.or_eq_true, beq_iff_eq, beq_iff_eq, hz] at c2
        omega
      subst e1
      exact ⟨.str z, H, I, ⟨_, rfl⟩, q z ez⟩
    · rw [if_neg c2]
      have fl := fold_rep1 z.cps n.toNat #[]
      have ul : (⟨(List.replicate n.toNat z.cps).foldl (fun x1 x2 => x1 ++ x2) #[]⟩ : Str).cps.toList = List.replicate n.toNat ch := by
        show ((List.replicate n.toNat z.cps).foldl (fun x1 x2 => x1 ++ x2) #[]).toList = _
        rw [fl, ez, flat_one]
        rfl
      refine ⟨?_, .str ⟨(List.replicate n.toNat z.cps).foldl (fun x1 x2 => x1 ++ x2) #[]⟩, H, Inv.tok I _, ⟨_, rfl⟩, q _ ul⟩
      show (⟨(List.replicate n.toNat z.cps).foldl (fun x1 x2 => x1 ++ x2) #[]⟩ : Str).cps.toList.length ≤ sizeLine
      rw [ul, List.length_replicate]
      exact small_le (by omega)
/-! #### a long name -/
def nmT (u : Str) : List Str := [("round" : Str), u, ("end" : Str)]
theorem nmT_bt {u : Str} {ch n : Nat} (e : u.cps.toList = List.replicate n ch) (hc : LetC ch) (h1 : 1 ≤ n) (h2 : n ≤ 14) : BT (nmT u) 1 (decide (12 < n)) := by
  have ul : u.length = n := by
    show u.cps.toList.length = n
    rw [e, List.length_replicate]
  by_cases c : 12 < n
  · rw [decide_eq_true c]
    refine ⟨fun x m => ?_, .inr (by show 2 ≤ 3; decide), by show 3 ≤ 200; decide, fun z => Bool.noConfusion z, fun _ => ?_⟩
    · rcases List.mem_cons.mp m with rfl | m
      · exact lit_s (by decide +kernel)
      rcases List.mem_cons.mp m with rfl | m
      · refine ⟨fun d md => ?_, by omega⟩
        rw [e] at md
        rw [List.eq_of_mem_replicate md]
        have := hc.1
        have := hc.2
        omega
      · rw [List.mem_singleton.mp m]
        exact lit_s (by decide +kernel)
    · refine badR (os := []) (us := []) (rs := []) (b := (0, 0)) (x := u) (rest := (["end"] : List Str)) ⟨new0, by decide, new0, by decide, (fun _ m => by cases m), new0, by decide, rfl⟩ rfl fun c0 hc0 => ?_
      obtain ⟨c1, c2, c3, c4⟩ := hc0
      show BadRnd c0 [] 0 (0, 0) 1
      intro f
      unfold rndsM
      rw [if_pos ⟨by rw [c1]; rfl, by show 0 < 8; decide⟩, freshM_none fun x v ex ft => ?_]
      obtain ⟨f1, _, _⟩ := ft
      rw [c1] at ex
      have ex' : some u = some x := ex
      cases ex'
      have := f1.2.1
      omega
  · refine BT.good (decide_eq_false c) (os := []) (us := []) (rs := [(u, [])]) ⟨new0, by decide, new0, by decide, (fun _ m => by cases m), new1 ⟨?_, ?_⟩, by show 1 ≤ 8; decide, ⟨_, rfl, by show 0 ≤ 8; decide, trivial⟩⟩ rfl (by show 3 ≤ 200; decide)
    · obtain ⟨k, rfl⟩ : ∃ k, n = k + 1 := ⟨n - 1, by omega⟩
      refine ⟨ch, List.replicate k ch, by rw [e, List.replicate_succ], hc, fun d md => ?_, by rw [List.length_replicate]; omega⟩
      rw [List.eq_of_mem_replicate md]
      exact .inl hc
    · intro m
      have t : kwL.all (fun w => decide (2 ≤ w.cps.toList.length) && decide (w.cps.toList.getD 0 0 ≠ w.cps.toList.getD 1 0)) = true := by decide +kernel
      have := List.all_eq_true.mp t u m
      rw [Bool.and_eq_true, decide_eq_true_eq, decide_eq_true_eq, e, List.length_replicate] at this
      obtain ⟨t1, t2⟩ := this
      refine t2 ?_
      rw [List.getD_eq_getElem?_getD, List.getD_eq_getElem?_getD, List.getElem?_replicate, List.getElem?_replicate, if_pos (by omega), if_pos (by omega)]


structure Txt (K : PySem.W.Frag) (mg : Str → Option Value) where
  C_Cursor : Addr
  C_BlockReader : Addr
  C_Game : Addr
  C_BadText : Addr
  a_BadText_init : Addr
  d_BadText_init : FuncData
  m_BadText : mg "BadText" = some (.ref C_BadText)
  e_BadText : ErrC K C_BadText a_BadText_init s_BadText_init "BadText.__init__" "at" d_BadText_init
  b_BadText_init : Binds K d_BadText_init ["self", "at"] []
  t_BadText : PySem.W.exmOne K (.ref C_BadText) (.ref C_BadText) = some true
  C_GameError : Addr
  m_GameError : mg "GameError" = some (.ref C_GameError)
  t_BadText_GameError : PySem.W.exmOne K (.ref C_BadText) (.ref C_GameError) = some true
  i_BadText : ErrI K C_BadText
  kv_BadText : PySem.W.kitOne K (.ref C_BadText) (.type "ValueError") = some true
  kk_BadText_GameError : PySem.W.kitOne K (.ref C_BadText) (.ref C_GameError) = some true
  kk_BadText_BadText : PySem.W.kitOne K (.ref C_BadText) (.ref C_BadText) = some true
  z_super : mg "super" = none
  a_Cursor_init : Addr
  d_Cursor_init : FuncData
  zk_Cursor_init_0 : Addr
  qzk_Cursor_init_0 : ∀ H, SqT K H zk_Cursor_init_0 []
  zk_Cursor_init_1 : Addr
  qzk_Cursor_init_1 : ∀ H, SqT K H zk_Cursor_init_1 []
  F_Cursor_init : FunD K "__init__" "Cursor.__init__" (defArgs s_Cursor_init) (defBody s_Cursor_init) (defScope s_Cursor_init) [] [("options", .ref zk_Cursor_init_0), ("variables", .ref zk_Cursor_init_1), ("sees", .bl false)] a_Cursor_init d_Cursor_init
  ds_Cursor_init : List Value
  v_Cursor_init : Vals [.ref zk_Cursor_init_0, .ref zk_Cursor_init_1, .bl false] ds_Cursor_init
  bd_Cursor_init : Binds K d_Cursor_init ["self", "words", "options", "variables", "sees"] ds_Cursor_init
  mz_Cursor_init_options_variables : List Value
  kb_Cursor_init_options_variables : KBn K d_Cursor_init ["self", "words", "options", "variables", "sees"] 2 ["options", "variables"] (fun us ws => us ++ (ws ++ mz_Cursor_init_options_variables)) (fun vs zs => vs ++ (zs ++ [.bl false]))
  mk_Cursor : Mk K C_Cursor a_Cursor_init
  a_BlockReader_init : Addr
  d_BlockReader_init : FuncData
  F_BlockReader_init : Fun K "__init__" "BlockReader.__init__" s_BlockReader_init a_BlockReader_init d_BlockReader_init
  b_BlockReader_init : Binds K d_BlockReader_init ["self", "cursor"] []
  mk_BlockReader : Mk K C_BlockReader a_BlockReader_init
  a_Game_init : Addr
  d_Game_init : FuncData
  F_Game_init : Fun K "__init__" "Game.__init__" s_Game_init a_Game_init d_Game_init
  b_Game_init : Binds K d_Game_init ["self", "options", "variables", "rounds"] []
  mk_Game : Mk K C_Game a_Game_init
  a_split_words : Addr
  d_split_words : FuncData
  F_split_words : Fun K "split_words" "split_words" s_split_words a_split_words d_split_words
  b_split_words : Binds K d_split_words ["text"] []
  m_split_words : mg "split_words" = some (.ref a_split_words)
  a_join_words : Addr
  d_join_words : FuncData
  F_join_words : Fun K "join_words" "join_words" s_join_words a_join_words d_join_words
  b_join_words : Binds K d_join_words ["words"] []
  m_join_words : mg "join_words" = some (.ref a_join_words)
  a_is_name : Addr
  d_is_name : FuncData
  F_is_name : Fun K "is_name" "is_name" s_is_name a_is_name d_is_name
  b_is_name : Binds K d_is_name ["word"] []
  m_is_name : mg "is_name" = some (.ref a_is_name)
  a_number_of : Addr
  d_number_of : FuncData
  F_number_of : Fun K "number_of" "number_of" s_number_of a_number_of d_number_of
  b_number_of : Binds K d_number_of ["word"] []
  m_number_of : mg "number_of" = some (.ref a_number_of)
  a_Cursor_word : Addr
  d_Cursor_word : FuncData
  F_Cursor_word : Fun K "word" "Cursor.word" s_Cursor_word a_Cursor_word d_Cursor_word
  b_Cursor_word : Binds K d_Cursor_word ["self"] []
  p_Cursor_word : Addr
  pr_Cursor_word : PropOf K C_Cursor "word" p_Cursor_word a_Cursor_word
  a_Cursor_pass_if : Addr
  d_Cursor_pass_if : FuncData
  F_Cursor_pass_if : Fun K "_pass_if" "Cursor._pass_if" s_Cursor_pass_if a_Cursor_pass_if d_Cursor_pass_if
  b_Cursor_pass_if : Binds K d_Cursor_pass_if ["self", "fits"] []
  me_Cursor_pass_if : Meth K C_Cursor "_pass_if" a_Cursor_pass_if
  a_Cursor_take_word : Addr
  d_Cursor_take_word : FuncData
  F_Cursor_take_word : Fun K "take_word" "Cursor.take_word" s_Cursor_take_word a_Cursor_take_word d_Cursor_take_word
  b_Cursor_take_word : Binds K d_Cursor_take_word ["self", "word"] []
  me_Cursor_take_word : Meth K C_Cursor "take_word" a_Cursor_take_word
  a_Cursor_take_number : Addr
  d_Cursor_take_number : FuncData
  F_Cursor_take_number : Fun K "take_number" "Cursor.take_number" s_Cursor_take_number a_Cursor_take_number d_Cursor_take_number
  b_Cursor_take_number : Binds K d_Cursor_take_number ["self", "least", "most"] []
  me_Cursor_take_number : Meth K C_Cursor "take_number" a_Cursor_take_number
  a_Cursor_take_name : Addr
  d_Cursor_take_name : FuncData
  F_Cursor_take_name : Fun K "take_name" "Cursor.take_name" s_Cursor_take_name a_Cursor_take_name d_Cursor_take_name
  b_Cursor_take_name : Binds K d_Cursor_take_name ["self", "names"] []
  me_Cursor_take_name : Meth K C_Cursor "take_name" a_Cursor_take_name
  a_Cursor_take_new_name : Addr
  d_Cursor_take_new_name : FuncData
  F_Cursor_take_new_name : Fun K "take_new_name" "Cursor.take_new_name" s_Cursor_take_new_name a_Cursor_take_new_name d_Cursor_take_new_name
  b_Cursor_take_new_name : Binds K d_Cursor_take_new_name ["self", "names"] []
  me_Cursor_take_new_name : Meth K C_Cursor "take_new_name" a_Cursor_take_new_name
  a_openings : Addr
  d_openings : FuncData
  F_openings : Fun K "_openings" "_openings" s_openings a_openings d_openings
  b_openings : Binds K d_openings ["cursor", "room"] []
  m_openings : mg "_openings" = some (.ref a_openings)
  a_read_parts : Addr
  d_read_parts : FuncData
  F_read_parts : Fun K "_read_parts" "_read_parts" s_read_parts a_read_parts d_read_parts
  b_read_parts : Binds K d_read_parts ["cursor", "word", "room"] []
  m_read_parts : mg "_read_parts" = some (.ref a_read_parts)
  a_read_expression : Addr
  d_read_expression : FuncData
  F_read_expression : FunD K "read_expression" "read_expression" (defArgs s_read_expression) (defBody s_read_expression) (defScope s_read_expression) [] [("room", .int 12)] a_read_expression d_read_expression
  ds_read_expression : List Value
  v_read_expression : Vals [.int 12] ds_read_expression
  bd_read_expression : Binds K d_read_expression ["cursor", "room"] ds_read_expression
  kb_read_expression : KBn K d_read_expression ["cursor", "room"] 1 ["room"] (fun us ws => us ++ ws) (fun vs zs => vs ++ zs)
  m_read_expression : mg "read_expression" = some (.ref a_read_expression)
  a_expression_words : Addr
  d_expression_words : FuncData
  F_expression_words : Fun K "expression_words" "expression_words" s_expression_words a_expression_words d_expression_words
  b_expression_words : Binds K d_expression_words ["expression"] []
  m_expression_words : mg "expression_words" = some (.ref a_expression_words)
  a_BlockReader_openings : Addr
  d_BlockReader_openings : FuncData
  F_BlockReader_openings : Fun K "_openings" "BlockReader._openings" s_BlockReader_openings a_BlockReader_openings d_BlockReader_openings
  b_BlockReader_openings : Binds K d_BlockReader_openings ["self", "depth"] []
  me_BlockReader_openings : Meth K C_BlockReader "_openings" a_BlockReader_openings
  a_BlockReader_read_choice : Addr
  d_BlockReader_read_choice : FuncData
  F_BlockReader_read_choice : Fun K "_read_choice" "BlockReader._read_choice" s_BlockReader_read_choice a_BlockReader_read_choice d_BlockReader_read_choice
  b_BlockReader_read_choice : Binds K d_BlockReader_read_choice ["self", "word"] []
  me_BlockReader_read_choice : Meth K C_BlockReader "_read_choice" a_BlockReader_read_choice
  a_BlockReader_read_branches : Addr
  d_BlockReader_read_branches : FuncData
  F_BlockReader_read_branches : Fun K "_read_branches" "BlockReader._read_branches" s_BlockReader_read_branches a_BlockReader_read_branches d_BlockReader_read_branches
  b_BlockReader_read_branches : Binds K d_BlockReader_read_branches ["self", "word", "test", "depth"] []
  me_BlockReader_read_branches : Meth K C_BlockReader "_read_branches" a_BlockReader_read_branches
  a_BlockReader_read_statement : Addr
  d_BlockReader_read_statement : FuncData
  F_BlockReader_read_statement : Fun K "_read_statement" "BlockReader._read_statement" s_BlockReader_read_statement a_BlockReader_read_statement d_BlockReader_read_statement
  b_BlockReader_read_statement : Binds K d_BlockReader_read_statement ["self", "depth"] []
  me_BlockReader_read_statement : Meth K C_BlockReader "_read_statement" a_BlockReader_read_statement
  a_BlockReader_read_block : Addr
  d_BlockReader_read_block : FuncData
  F_BlockReader_read_block : Fun K "read_block" "BlockReader.read_block" s_BlockReader_read_block a_BlockReader_read_block d_BlockReader_read_block
  b_BlockReader_read_block : Binds K d_BlockReader_read_block ["self", "depth"] []
  me_BlockReader_read_block : Meth K C_BlockReader "read_block" a_BlockReader_read_block
  a_branch_words : Addr
  d_branch_words : FuncData
  F_branch_words : Fun K "_branch_words" "_branch_words" s_branch_words a_branch_words d_branch_words
  b_branch_words : Binds K d_branch_words ["statement"] []
  m_branch_words : mg "_branch_words" = some (.ref a_branch_words)
  a_statement_words : Addr
  d_statement_words : FuncData
  F_statement_words : Fun K "_statement_words" "_statement_words" s_statement_words a_statement_words d_statement_words
  b_statement_words : Binds K d_statement_words ["statement"] []
  m_statement_words : mg "_statement_words" = some (.ref a_statement_words)
  a_block_words : Addr
  d_block_words : FuncData
  F_block_words : Fun K "block_words" "block_words" s_block_words a_block_words d_block_words
  b_block_words : Binds K d_block_words ["block"] []
  m_block_words : mg "block_words" = some (.ref a_block_words)
  a_Game_eq : Addr
  d_Game_eq : FuncData
  F_Game_eq : Fun K "__eq__" "Game.__eq__" s_Game_eq a_Game_eq d_Game_eq
  b_Game_eq : Binds K d_Game_eq ["self", "other"] []
  me_Game_eq : Meth K C_Game "__eq__" a_Game_eq
  a_names : Addr
  d_names : FuncData
  F_names : Fun K "_names" "_names" s_names a_names d_names
  b_names : Binds K d_names ["pairs"] []
  m_names : mg "_names" = some (.ref a_names)
  a_read_options : Addr
  d_read_options : FuncData
  F_read_options : Fun K "_read_options" "_read_options" s_read_options a_read_options d_read_options
  b_read_options : Binds K d_read_options ["cursor"] []
  m_read_options : mg "_read_options" = some (.ref a_read_options)
  a_read_variables : Addr
  d_read_variables : FuncData
  F_read_variables : Fun K "_read_variables" "_read_variables" s_read_variables a_read_variables d_read_variables
  b_read_variables : Binds K d_read_variables ["cursor"] []
  m_read_variables : mg "_read_variables" = some (.ref a_read_variables)
  a_read_rounds : Addr
  d_read_rounds : FuncData
  F_read_rounds : Fun K "_read_rounds" "_read_rounds" s_read_rounds a_read_rounds d_read_rounds
  b_read_rounds : Binds K d_read_rounds ["cursor"] []
  m_read_rounds : mg "_read_rounds" = some (.ref a_read_rounds)
  a_read_game : Addr
  d_read_game : FuncData
  F_read_game : Fun K "read_game" "read_game" s_read_game a_read_game d_read_game
  b_read_game : Binds K d_read_game ["text"] []
  m_read_game : mg "read_game" = some (.ref a_read_game)
  a_pieces_of : Addr
  d_pieces_of : FuncData
  F_pieces_of : Fun K "pieces_of" "pieces_of" s_pieces_of a_pieces_of d_pieces_of
  b_pieces_of : Binds K d_pieces_of ["game"] []
  m_pieces_of : mg "pieces_of" = some (.ref a_pieces_of)
  a_game_text : Addr
  d_game_text : FuncData
  F_game_text : Fun K "game_text" "game_text" s_game_text a_game_text d_game_text
  b_game_text : Binds K d_game_text ["game"] []
  m_game_text : mg "game_text" = some (.ref a_game_text)
  a_law_pool : Addr
  d_law_pool : FuncData
  F_law_pool : Fun K "_law_pool" "_law_pool" s_law_pool a_law_pool d_law_pool
  b_law_pool : Binds K d_law_pool ["script", "budget"] []
  m_law_pool : mg "_law_pool" = some (.ref a_law_pool)
  a_law_draw : Addr
  d_law_draw : FuncData
  F_law_draw : Fun K "_law_draw" "_law_draw" s_law_draw a_law_draw d_law_draw
  b_law_draw : Binds K d_law_draw ["pool", "size"] []
  m_law_draw : mg "_law_draw" = some (.ref a_law_draw)
  a_law_same : Addr
  d_law_same : FuncData
  F_law_same : Fun K "_law_same" "_law_same" s_law_same a_law_same d_law_same
  b_law_same : Binds K d_law_same ["actual", "due"] []
  m_law_same : mg "_law_same" = some (.ref a_law_same)
  a_law_read : Addr
  d_law_read : FuncData
  F_law_read : Fun K "_law_read" "_law_read" s_law_read a_law_read d_law_read
  b_law_read : Binds K d_law_read ["text"] []
  m_law_read : mg "_law_read" = some (.ref a_law_read)
  a_law_many : Addr
  d_law_many : FuncData
  F_law_many : Fun K "_law_many" "_law_many" s_law_many a_law_many d_law_many
  b_law_many : Binds K d_law_many ["pool", "word", "rest", "most"] []
  m_law_many : mg "_law_many" = some (.ref a_law_many)
  a_law_branchings : Addr
  d_law_branchings : FuncData
  F_law_branchings : Fun K "_law_branchings" "_law_branchings" s_law_branchings a_law_branchings d_law_branchings
  b_law_branchings : Binds K d_law_branchings ["pool"] []
  m_law_branchings : mg "_law_branchings" = some (.ref a_law_branchings)
  a_law_deep : Addr
  d_law_deep : FuncData
  F_law_deep : Fun K "_law_deep" "_law_deep" s_law_deep a_law_deep d_law_deep
  b_law_deep : Binds K d_law_deep ["pool"] []
  m_law_deep : mg "_law_deep" = some (.ref a_law_deep)
  a_law_deep_expression : Addr
  d_law_deep_expression : FuncData
  F_law_deep_expression : Fun K "_law_deep_expression" "_law_deep_expression" s_law_deep_expression a_law_deep_expression d_law_deep_expression
  b_law_deep_expression : Binds K d_law_deep_expression ["pool"] []
  m_law_deep_expression : mg "_law_deep_expression" = some (.ref a_law_deep_expression)
  a_law_number_words : Addr
  d_law_number_words : FuncData
  F_law_number_words : Fun K "_law_number_words" "_law_number_words" s_law_number_words a_law_number_words d_law_number_words
  b_law_number_words : Binds K d_law_number_words ["pool"] []
  m_law_number_words : mg "_law_number_words" = some (.ref a_law_number_words)
  a_law_else : Addr
  d_law_else : FuncData
  F_law_else : Fun K "_law_else" "_law_else" s_law_else a_law_else d_law_else
  b_law_else : Binds K d_law_else ["pool"] []
  m_law_else : mg "_law_else" = some (.ref a_law_else)
  a_law_text : Addr
  d_law_text : FuncData
  F_law_text : Fun K "_law_text" "_law_text" s_law_text a_law_text d_law_text
  b_law_text : Binds K d_law_text ["pool"] []
  m_law_text : mg "_law_text" = some (.ref a_law_text)
  a_law : Addr
  d_law : FuncData
  F_law : Fun K "law" "law" s_law a_law d_law
  b_law : Binds K d_law ["script"] []
  m_law : mg "law" = some (.ref a_law)
  m_Cursor : mg "Cursor" = some (.ref C_Cursor)
  cl_Cursor : Cls K C_Cursor
  n_Cursor__words : NoAttr K C_Cursor "_words"
  n_Cursor_options : NoAttr K C_Cursor "options"
  n_Cursor_variables : NoAttr K C_Cursor "variables"
  n_Cursor_sees : NoAttr K C_Cursor "sees"
  n_Cursor_at : NoAttr K C_Cursor "at"
  m_BlockReader : mg "BlockReader" = some (.ref C_BlockReader)
  cl_BlockReader : Cls K C_BlockReader
  n_BlockReader__cursor : NoAttr K C_BlockReader "_cursor"
  n_BlockReader__draws : NoAttr K C_BlockReader "_draws"
  n_BlockReader__moves : NoAttr K C_BlockReader "_moves"
  m_Game : mg "Game" = some (.ref C_Game)
  cl_Game : Cls K C_Game
  n_Game_options : NoAttr K C_Game "options"
  n_Game_variables : NoAttr K C_Game "variables"
  n_Game_rounds : NoAttr K C_Game "rounds"
  ic_Game : C8.InsC K C_Game
  v_LETTERS_AND_DIGITS : Value
  g_LETTERS_AND_DIGITS : mg "LETTERS_AND_DIGITS" = some v_LETTERS_AND_DIGITS
  r_LETTERS_AND_DIGITS : RelV (.str "abcdefghijklmnopqrstuvwxyz0123456789") v_LETTERS_AND_DIGITS
  v_LETTERS : Value
  g_LETTERS : mg "LETTERS" = some v_LETTERS
  r_LETTERS : RelV (.str "abcdefghijklmnopqrstuvwxyz") v_LETTERS
  A_KEY_WORDS : Addr
  g_KEY_WORDS : mg "KEY_WORDS" = some (.ref A_KEY_WORDS)
  q_KEY_WORDS : ∀ H, SqT K H A_KEY_WORDS [.str "option", .str "on", .str "off", .str "var", .str "round", .str "end", .str "set", .str "if", .str "else", .str "when", .str "draw", .str "first", .str "second", .str "show", .str "both", .str "pay", .str "take", .str "pick", .str "mod", .str "player", .str "keep", .str "lot", .str "while", .str "answer", .str "view", .str "long"]
  qd_KEY_WORDS : ∃ o, K.lookup A_KEY_WORDS = some o ∧ o.cls = .type "tuple" ∧ o.dict = none
  v_LONGEST_NAME : Value
  g_LONGEST_NAME : mg "LONGEST_NAME" = some v_LONGEST_NAME
  r_LONGEST_NAME : RelV (.int 12) v_LONGEST_NAME
  v_GREATEST_NUMBER : Value
  g_GREATEST_NUMBER : mg "GREATEST_NUMBER" = some v_GREATEST_NUMBER
  r_GREATEST_NUMBER : RelV (.int 65535) v_GREATEST_NUMBER
  v_LONGEST_NUMBER : Value
  g_LONGEST_NUMBER : mg "LONGEST_NUMBER" = some v_LONGEST_NUMBER
  r_LONGEST_NUMBER : RelV (.int 5) v_LONGEST_NUMBER
  A_OPERATORS : Addr
  g_OPERATORS : mg "OPERATORS" = some (.ref A_OPERATORS)
  q_OPERATORS : ∀ H, SqT K H A_OPERATORS [.str "+", .str "-", .str "*", .str "/", .str "mod", .str "<", .str "="]
  qd_OPERATORS : ∃ o, K.lookup A_OPERATORS = some o ∧ o.cls = .type "tuple" ∧ o.dict = none
  v_MOST_CHOICES : Value
  g_MOST_CHOICES : mg "MOST_CHOICES" = some v_MOST_CHOICES
  r_MOST_CHOICES : RelV (.int 24) v_MOST_CHOICES
  v_DEEPEST_BLOCK : Value
  g_DEEPEST_BLOCK : mg "DEEPEST_BLOCK" = some v_DEEPEST_BLOCK
  r_DEEPEST_BLOCK : RelV (.int 8) v_DEEPEST_BLOCK
  v_MOST_MOVES : Value
  g_MOST_MOVES : mg "MOST_MOVES" = some v_MOST_MOVES
  r_MOST_MOVES : RelV (.int 8) v_MOST_MOVES
  A_SEATS : Addr
  g_SEATS : mg "SEATS" = some (.ref A_SEATS)
  q_SEATS : ∀ H, SqT K H A_SEATS [.str "both", .str "first", .str "second"]
  qd_SEATS : ∃ o, K.lookup A_SEATS = some o ∧ o.cls = .type "tuple" ∧ o.dict = none
  v_MOST_RESULTS : Value
  g_MOST_RESULTS : mg "MOST_RESULTS" = some v_MOST_RESULTS
  r_MOST_RESULTS : RelV (.int 64) v_MOST_RESULTS
  v_MOST_OPTIONS : Value
  g_MOST_OPTIONS : mg "MOST_OPTIONS" = some v_MOST_OPTIONS
  r_MOST_OPTIONS : RelV (.int 6) v_MOST_OPTIONS
  v_MOST_VARIABLES : Value
  g_MOST_VARIABLES : mg "MOST_VARIABLES" = some v_MOST_VARIABLES
  r_MOST_VARIABLES : RelV (.int 12) v_MOST_VARIABLES
  v_MOST_ROUNDS : Value
  g_MOST_ROUNDS : mg "MOST_ROUNDS" = some v_MOST_ROUNDS
  r_MOST_ROUNDS : RelV (.int 8) v_MOST_ROUNDS
  z_all : mg "all" = none
  z_bool : mg "bool" = none
  z_int : mg "int" = none
  z_isinstance : mg "isinstance" = none
  z_len : mg "len" = none
  z_list : mg "list" = none
  z_range : mg "range" = none
  z_str : mg "str" = none
  z_tuple : mg "tuple" = none
section
variable {P : Program} [PrOk P] {w : World} {K : PySem.W.Frag} {mg : Str → Option Value} {base : Heap}
theorem nsc_BadText_init : NdefX.NScope ["self", "at", "__class__"] ["self", "at"] ["__class__"] (defScope s_BadText_init) := NdefX.nscope_by (by decide +kernel)
theorem ok_BadText_init (T : Txt K mg) : FnOk P w K mg base CX0 1 T.a_BadText_init T.d_BadText_init ["self", "at"] (spErr T.C_BadText "at" okInt) := by
  obtain ⟨y1, y2, y3, y4, y5, y6, y7, y8, y9, yA, yB, yC, yD, yE, yF, yG, yH, yI, yJ, lk, hcd, hcode, hvs, hcell, hsup, hB, hself, hop⟩ := T.e_BadText.fn
  rw [yJ] at lk ⊢
  refine fn_super lk hcd hcode hvs PrOk.file hcell T.e_BadText.ox hsup hB hself hop T.z_super PrOk.top rfl rfl nsc_BadText_init (by decide +kernel) (fun vs H Q E h => ?_) (fun A outer s H vs Q E hr h => ?_) (fun _ => rfl) (fun _ => rfl) (fun _ => ⟨_, rfl⟩) (fun _ => rfl)
  · obtain ⟨x, v, rfl, _⟩ := h
    rfl
  obtain ⟨x, v, rfl, hx, hv, k⟩ := h
  refine ⟨_, _, x, (pa_cons (pe_joined (PJ.cons pe_str (PJ.cons (pe_fmt (pv 1)) PJ.nil))) pa_nil), (pss_one (ps_ost (pv 0) (pv 1))), rfl, hx, ?_⟩
  obtain ⟨i, rfl, hi⟩ := hv
  refine ⟨_, rfl, by first | decide +kernel | exact okInt_len _ hi (by decide +kernel), ⟨_, rfl, .inr ⟨i, rfl, okInt_log hi, _, rfl, okInt_len _ hi (by decide +kernel), ⟨by show 1 ≤ 1000; decide, hx, ?_⟩⟩⟩⟩
  refine ⟨_, rfl, _, rfl, x, T.C_BadText, rfl, T.e_BadText.ox, T.e_BadText.no, .inl ⟨hx, k⟩⟩
/-! ### Cursor.__init__ -/
theorem arg_keep {K : PySem.W.Frag} {H H' : Hp} {o x C dx : Addr} {fs : List (Str × V)} {xs : List V} (h : SqL K H o xs ∨ SqT K H o xs) (hx : H x = some (.ins C dx fs)) (b : But x H H') : SqL K H' o xs ∨ SqT K H' o xs := h.imp (fun h => sqL_ins h hx b) (fun h => sqT_ins h hx b)
def sp_Cursor_init (T : Txt K mg) : Sp := fun vs H Q _ => ∃ (x dx a o1 o2 : Addr) (ws os us : List Str) (se : Bool), vs = [.ref x, .ref a, .ref o1, .ref o2, .bl se] ∧ H x = some (.ins T.C_Cursor dx []) ∧ H a = some (.lst (ws.map V.str)) ∧ (SqL K H o1 (os.map V.str) ∨ SqT K H o1 (os.map V.str)) ∧ (SqL K H o2 (us.map V.str) ∨ SqT K H o2 (us.map V.str)) ∧
  ∀ (c : CuI) (H' : Hp), But x H H' → c.a = x → c.ws = ws → c.ops = os → c.vars = us → c.se = se → H c.wl = none → CuX K T.C_Cursor H' c 0 → Q .non H'

theorem ok_Cursor_init (T : Txt K mg) : FnOk P w K mg base CX0 1 T.a_Cursor_init T.d_Cursor_init ["self", "words", "options", "variables", "sees"] (sp_Cursor_init T) := by
  refine T.F_Cursor_init.ok sc_Cursor_init (fun vs H Q E h => ?_) (fun cdv A outer s H vs Q E hr h => ?_)
  · obtain ⟨x, dx, a, o1, o2, ws, os, us, se, rfl, _⟩ := h
    rfl
  obtain ⟨x, dx, a, o1, o2, ws, os, us, se, rfl, hx, ha, ho1, ho2, q⟩ := h
  refine ⟨_, (pss_cons (ps_fld (pv 0) (pe_callTy call_list_of (by rfl) T.z_list (by first | exact PySem.boot_list | decide +kernel) (pa_cons (pv 1) pa_nil)) rfl)
      (C8.pss_cut (ps_fld (pv 0) (pe_callTy call_tuple_of (by rfl) T.z_tuple (by first | exact PySem.boot_tuple | decide +kernel) (pa_cons (pv 2) pa_nil)) rfl)
      (C8.pss_cut (ps_fld (pv 0) (pe_callTy call_tuple_of (by rfl) T.z_tuple (by first | exact PySem.boot_tuple | decide +kernel) (pa_cons (pv 3) pa_nil)) rfl)
      (pss_cons (ps_fld (pv 0) (pv 4) rfl)
      (pss_one (ps_fld (pv 0) pe_int rfl)))))), ?_⟩
  have na : a ≠ x := fun z => by rw [z, hx] at ha; cases ha
  refine ⟨_, rfl, a, _, rfl, .inl (SqL.of ha), fun wl fwl => ?_⟩
  have s1 := same_upd (o := .lst (ws.map V.str)) fwl
  have nwx : wl ≠ x := (ne_of_none hx fwl).symm
  refine ⟨_, rfl, x, T.C_Cursor, dx, [], rfl, s1 _ _ hx, T.cl_Cursor, T.n_Cursor__words, by show 0 < 1000; decide, ?_⟩
  have k2 : But x H (upd (upd H wl (.lst (ws.map V.str))) x (.ins T.C_Cursor dx [("_words", .ref wl)])) := fun b o n e => by rw [upd_ne n]; exact s1 _ _ e
  have x2 : upd (upd H wl (.lst (ws.map V.str))) x (.ins T.C_Cursor dx [("_words", .ref wl)]) x = some (.ins T.C_Cursor dx [("_words", .ref wl)]) := upd_same
  have w2 : upd (upd H wl (.lst (ws.map V.str))) x (.ins T.C_Cursor dx [("_words", .ref wl)]) wl = some (.lst (ws.map V.str)) := by rw [upd_ne nwx]; exact upd_same
  show C8.tCut _ _ _ _ (upd (upd H wl (.lst (ws.map V.str))) x (.ins T.C_Cursor dx [("_words", .ref wl)]))
  revert k2 x2 w2
  generalize upd (upd H wl (.lst (ws.map V.str))) x (.ins T.C_Cursor dx [("_words", .ref wl)]) = H2
  intro k2 x2 w2
  have ho1' := arg_keep ho1 hx k2
  refine ⟨fun σ' H' => ∃ z1, σ' = [some (.ref x), some (.ref a), some (.ref o1), some (.ref o2), some (.bl se)] ∧ But x H H' ∧ H' x = some (.ins T.C_Cursor dx [("_words", .ref wl), ("options", .ref z1)]) ∧ H' wl = some (.lst (ws.map V.str)) ∧ SqT K H' z1 (os.map V.str), ?_, ?_⟩
  · have e1 : ∀ {z1 : Addr}, putF "options" (V.ref z1) [("_words", V.ref wl)] = ([("_words", .ref wl), ("options", .ref z1)] : List (Str × V)) := fun {z1} => pf_new (show ("options" : Str) ∉ (["_words"] : List Str) by decide +kernel)
    rcases ho1' with h | h
    · refine ⟨_, rfl, o1, _, rfl, .inl ⟨h, fun z1 fz1 => ?_⟩⟩
      have s3 := same_upd (o := .tup (os.map V.str)) fz1
      refine ⟨_, rfl, x, T.C_Cursor, dx, [("_words", .ref wl)], rfl, s3 _ _ x2, T.cl_Cursor, T.n_Cursor_options, by show 1 < 1000; decide, ?_⟩
      rw [e1]
      have nz1 : z1 ≠ x := (ne_of_none x2 fz1).symm
      exact ⟨z1, rfl, fun b o n e => by rw [upd_ne n]; exact s3 _ _ (k2 _ _ n e), upd_same, by rw [upd_ne nwx]; exact s3 _ _ w2, SqT.of (by rw [upd_ne nz1]; exact upd_same)⟩
    · refine ⟨_, rfl, o1, _, rfl, .inr ⟨h, ?_⟩⟩
      refine ⟨_, rfl, x, T.C_Cursor, dx, [("_words", .ref wl)], rfl, x2, T.cl_Cursor, T.n_Cursor_options, by show 1 < 1000; decide, ?_⟩
      rw [e1]
      exact ⟨o1, rfl, fun b o n e => by rw [upd_ne n]; exact k2 _ _ n e, upd_same, by rw [upd_ne nwx]; exact w2, sqT_ins h x2 but_upd⟩
  rintro σ4 H4 ⟨z1, rfl, k4, x4, w4, t4⟩
  have ho2' := arg_keep ho2 hx k4
  clear k2 x2 w2 ho1'
  refine ⟨fun σ' H' => ∃ z2, σ' = [some (.ref x), some (.ref a), some (.ref o1), some (.ref o2), some (.bl se)] ∧ But x H H' ∧ H' x = some (.ins T.C_Cursor dx [("_words", .ref wl), ("options", .ref z1), ("variables", .ref z2)]) ∧ H' wl = some (.lst (ws.map V.str)) ∧ SqT K H' z1 (os.map V.str) ∧ SqT K H' z2 (us.map V.str), ?_, ?_⟩
  · have e1 : ∀ {z2 : Addr}, putF "variables" (V.ref z2) [("_words", V.ref wl), ("options", .ref z1)] = ([("_words", .ref wl), ("options", .ref z1), ("variables", .ref z2)] : List (Str × V)) := fun {z2} => pf_new (show ("variables" : Str) ∉ (["_words", "options"] : List Str) by decide +kernel)
    rcases ho2' with h | h
    · refine ⟨_, rfl, o2, _, rfl, .inl ⟨h, fun z2 fz2 => ?_⟩⟩
      have s3 := same_upd (o := .tup (us.map V.str)) fz2
      refine ⟨_, rfl, x, T.C_Cursor, dx, [("_words", .ref wl), ("options", .ref z1)], rfl, s3 _ _ x4, T.cl_Cursor, T.n_Cursor_variables, by show 2 < 1000; decide, ?_⟩
      rw [e1]
      have nz2 : z2 ≠ x := (ne_of_none x4 fz2).symm
      exact ⟨z2, rfl, fun b o n e => by rw [upd_ne n]; exact s3 _ _ (k4 _ _ n e), upd_same, by rw [upd_ne nwx]; exact s3 _ _ w4, sqT_ins (sqT_same' t4 s3) (s3 _ _ x4) but_upd, SqT.of (by rw [upd_ne nz2]; exact upd_same)⟩
    · refine ⟨_, rfl, o2, _, rfl, .inr ⟨h, ?_⟩⟩
      refine ⟨_, rfl, x, T.C_Cursor, dx, [("_words", .ref wl), ("options", .ref z1)], rfl, x4, T.cl_Cursor, T.n_Cursor_variables, by show 2 < 1000; decide, ?_⟩
      rw [e1]
      exact ⟨o2, rfl, fun b o n e => by rw [upd_ne n]; exact k4 _ _ n e, upd_same, by rw [upd_ne nwx]; exact w4, sqT_ins t4 x4 but_upd, sqT_ins h x4 but_upd⟩
  rintro σ5 H5 ⟨z2, rfl, k5, x5, w5, t5, u5⟩
  clear k4 x4 w4 ho2' t4
  refine ⟨_, rfl, _, rfl, x, T.C_Cursor, dx, [("_words", .ref wl), ("options", .ref z1), ("variables", .ref z2)], rfl, x5, T.cl_Cursor, T.n_Cursor_sees, by show 3 < 1000; decide, ?_⟩
  rw [pf_new (show ("sees" : Str) ∉ (["_words", "options", "variables"] : List Str) by decide +kernel)]
  refine ⟨_, rfl, x, T.C_Cursor, dx, [("_words", .ref wl), ("options", .ref z1), ("variables", .ref z2), ("sees", .bl se)], rfl, upd_same, T.cl_Cursor, T.n_Cursor_at, by show 4 < 1000; decide, ?_⟩
  rw [pf_new (show ("at" : Str) ∉ (["_words", "options", "variables", "sees"] : List Str) by decide +kernel), upd_upd]
  refine q ⟨x, wl, z1, z2, os, us, ws, se⟩ _ (fun b o n e => by rw [upd_ne n]; exact k5 _ _ n e) rfl rfl rfl rfl rfl fwl ⟨Nat.zero_le _, ⟨dx, upd_same⟩, ?_, sqT_ins t5 x5 but_upd, sqT_ins u5 x5 but_upd⟩
  show upd _ x _ wl = _
  rw [upd_ne nwx]
  exact w5
/-! ### BlockReader.__init__ -/
def sp_BlockReader_init (T : Txt K mg) : Sp := fun vs H Q _ => ∃ (x dx ca : Addr), vs = [.ref x, .ref ca] ∧ H x = some (.ins T.C_BlockReader dx []) ∧ ∀ H', But x H H' → Rdr T.C_BlockReader H' x ca (0, 0) → Q .non H'

theorem ok_BlockReader_init (T : Txt K mg) : FnOk P w K mg base CX0 1 T.a_BlockReader_init T.d_BlockReader_init ["self", "cursor"] (sp_BlockReader_init T) := by
  refine T.F_BlockReader_init.ok sc_BlockReader_init (fun vs H Q E h => ?_) (fun cdv A outer s H vs Q E hr h => ?_)
  · obtain ⟨x, dx, ca, rfl, _⟩ := h
    rfl
  obtain ⟨x, dx, ca, rfl, hx, q⟩ := h
  refine ⟨_, (pss_cons (ps_fld (pv 0) (pv 1) rfl)
      (pss_cons (ps_fld (pv 0) pe_int rfl)
      (pss_one (ps_fld (pv 0) pe_int rfl)))), ?_⟩
  refine ⟨_, rfl, _, rfl, x, T.C_BlockReader, dx, [], rfl, hx, T.cl_BlockReader, T.n_BlockReader__cursor, by show 0 < 1000; decide, ?_⟩
  show tSeq _ _ _ _ (upd H x (.ins T.C_BlockReader dx [("_cursor", .ref ca)]))
  refine ⟨_, rfl, x, T.C_BlockReader, dx, [("_cursor", .ref ca)], rfl, upd_same, T.cl_BlockReader, T.n_BlockReader__draws, by show 1 < 1000; decide, ?_⟩
  rw [pf_new (show ("_draws" : Str) ∉ (["_cursor"] : List Str) by decide +kernel), upd_upd]
  refine ⟨_, rfl, x, T.C_BlockReader, dx, [("_cursor", .ref ca), ("_draws", .int 0)], rfl, upd_same, T.cl_BlockReader, T.n_BlockReader__moves, by show 2 < 1000; decide, ?_⟩
  rw [pf_new (show ("_moves" : Str) ∉ (["_cursor", "_draws"] : List Str) by decide +kernel), upd_upd]
  exact q _ but_upd ⟨dx, upd_same⟩
/-! ### Game.__init__ -/
def sp_Game_init (T : Txt K mg) : Sp := fun vs H Q _ => ∃ (x dx o1 u1 r1 : Addr) (ov uv rv : List V) (os : List (Str × Bool)) (us : List (Str × Int)) (rs : List (Str × List St)), vs = [.ref x, .ref o1, .ref u1, .ref r1] ∧ H x = some (.ins T.C_Game dx []) ∧ H o1 = some (.lst ov) ∧ Paired (OptV H) ov os ∧ os.length ≤ 100 ∧ H u1 = some (.lst uv) ∧ Paired (VarV H) uv us ∧ us.length ≤ 100 ∧ H r1 = some (.lst rv) ∧ Paired (RndV K H) rv rs ∧ rs.length ≤ 100 ∧
  ∀ (H' : Hp), But x H H' → GameS K T.C_Game H' x os us rs → Q .non H'

theorem ok_Game_init (T : Txt K mg) : FnOk P w K mg base CX0 1 T.a_Game_init T.d_Game_init ["self", "options", "variables", "rounds"] (sp_Game_init T) := by
  refine T.F_Game_init.ok sc_Game_init (fun vs H Q E h => ?_) (fun cdv A outer s H vs Q E hr h => ?_)
  · obtain ⟨x, dx, o1, u1, r1, ov, uv, rv, os, us, rs, rfl, _⟩ := h
    rfl
  obtain ⟨x, dx, o1, u1, r1, ov, uv, rv, os, us, rs, rfl, hx, ho, po, lo, hu, pu, lu, hr', pr, lr, q⟩ := h
  refine ⟨_, (C8.pss_cut (ps_fld (pv 0) (pe_callTy call_tuple_of (by rfl) T.z_tuple (by first | exact PySem.boot_tuple | decide +kernel) (pa_cons (pe_lc (own := [("name", 4), ("on", 5)]) (g := gTup K 2 (gCons (gName 4) (gCons (gName 5) gNil))) (tt := tYes) rfl sc_Game_init.nd (pi_list (pv 1)) (blkOk_by (N := N_Game_init) (sc := defScope s_Game_init) (by decide +kernel)) (fun _ _ _ _ _ => (by exact (pg_tup rfl (pgs_cons (pg_name (i := 4) sc_Game_init.nd rfl (by first | exact Or.inl rfl | exact Or.inr rfl)) (pgs_cons (pg_name (i := 5) sc_Game_init.nd rfl (by first | exact Or.inl rfl | exact Or.inr rfl)) pgs_nil))))) (fun _ _ _ _ _ => pts_nil) (fun _ _ _ _ _ => (by exact (pe_tup (pa_cons (pv 4) (pa_cons (pv 5) pa_nil)))))) pa_nil)) rfl)
      (C8.pss_cut (ps_fld (pv 0) (pe_callTy call_tuple_of (by rfl) T.z_tuple (by first | exact PySem.boot_tuple | decide +kernel) (pa_cons (pe_lc (own := [("name", 4), ("size", 6)]) (g := gTup K 2 (gCons (gName 4) (gCons (gName 6) gNil))) (tt := tYes) rfl sc_Game_init.nd (pi_list (pv 2)) (blkOk_by (N := N_Game_init) (sc := defScope s_Game_init) (by decide +kernel)) (fun _ _ _ _ _ => (by exact (pg_tup rfl (pgs_cons (pg_name (i := 4) sc_Game_init.nd rfl (by first | exact Or.inl rfl | exact Or.inr rfl)) (pgs_cons (pg_name (i := 6) sc_Game_init.nd rfl (by first | exact Or.inl rfl | exact Or.inr rfl)) pgs_nil))))) (fun _ _ _ _ _ => pts_nil) (fun _ _ _ _ _ => (by exact (pe_tup (pa_cons (pv 4) (pa_cons (pv 6) pa_nil)))))) pa_nil)) rfl)
      (pss_one (ps_fld (pv 0) (pe_callTy call_tuple_of (by rfl) T.z_tuple (by first | exact PySem.boot_tuple | decide +kernel) (pa_cons (pe_lc (own := [("name", 4), ("block", 7)]) (g := gTup K 2 (gCons (gName 4) (gCons (gName 7) gNil))) (tt := tYes) rfl sc_Game_init.nd (pi_list (pv 3)) (blkOk_by (N := N_Game_init) (sc := defScope s_Game_init) (by decide +kernel)) (fun _ _ _ _ _ => (by exact (pg_tup rfl (pgs_cons (pg_name (i := 4) sc_Game_init.nd rfl (by first | exact Or.inl rfl | exact Or.inr rfl)) (pgs_cons (pg_name (i := 7) sc_Game_init.nd rfl (by first | exact Or.inl rfl | exact Or.inr rfl)) pgs_nil))))) (fun _ _ _ _ _ => pts_nil) (fun _ _ _ _ _ => (by exact (pe_tup (pa_cons (pv 4) (pa_cons (pe_callTy (show CallR _ (.type "tuple") (rTupOf K) from call_tuple_of) (by rfl) T.z_tuple (by first | exact PySem.boot_tuple | decide +kernel) (pa_cons (pv 7) pa_nil)) pa_nil)))))) pa_nil)) rfl)))), ?_⟩
  have no : o1 ≠ x := fun z => by rw [z, hx] at ho; cases ho
  have nu : u1 ≠ x := fun z => by rw [z, hx] at hu; cases hu
  have nr : r1 ≠ x := fun z => by rw [z, hx] at hr'; cases hr'
  refine ⟨fun σ' H' => ∃ (o : Addr) (vs : List V), σ' = [some (.ref x), some (.ref o1), some (.ref u1), some (.ref r1), none, none, none, none] ∧ But x H H' ∧ H' x = some (.ins T.C_Game dx [("options", .ref o)]) ∧ H' o = some (.tup vs) ∧ Paired (OptV H') vs os, ?_, ?_⟩
  · refine ⟨_, rfl, o1, rfl, ⟨_, SqL.of ho⟩, fun D hD => ?_⟩
    refine lc_list (a := o1) (xs := ov) (fun i H2 => Same H H2 ∧ ∃ ws, H2 D = some (.lst ws) ∧ Paired (OptV H2) ws (os.take i)) ⟨same_upd hD, [], upd_same, .nil⟩ (fun i H2 _ h => SqL.of (h.1 _ _ ho)) (fun i v H2 hv h => ?_) (fun H2 h => ?_)
    · obtain ⟨s2, ws, e2, p2⟩ := h
      obtain ⟨t, ht, U2, rfl, hU2⟩ := pgetC po hv
      have l2 := paired_len p2
      rw [List.length_take] at l2
      refine ⟨U2, _, rfl, SqT.of (s2 _ _ hU2), rfl, _, _, rfl, _, _, rfl, rfl, ?_⟩
      refine ⟨rfl, ?_⟩
      refine ⟨_, rfl, _, rfl, by show 2 ≤ sizeLine; decide, fun U hU => ?_⟩
      have sU := same_upd (o := .tup [V.str t.1, .bl t.2]) hU
      have nU : U ≠ D := (ne_of_none e2 hU).symm
      have kU := (keepT_of sU).trans (keepT_lst (ys := ws ++ [.ref U]) (sU _ _ e2))
      refine ⟨_, sU _ _ e2, small1000 (by omega), fun c o e => ?_, _, upd_same, ?_⟩
      · rw [upd_ne (ne_of_none e hD)]
        exact sU _ _ (s2 _ _ e)
      · exact paired_take_snoc (L2.Paired.mapP p2 fun _ _ z => OptV.keep kU z) ht ⟨U, rfl, by rw [upd_ne nU]; exact upd_same⟩
    obtain ⟨s2, ws, e2, p2⟩ := h
    rw [show ov.length = os.length from paired_len po, List.take_of_length_le (Nat.le_refl _)] at p2
    refine ⟨D, _, rfl, .inl ⟨SqL.of e2, fun ca fc => ?_⟩⟩
    have s3 := same_upd (o := .tup ws) fc
    have s13 := s2.trans s3
    have x3 := s13 _ _ hx
    have nx : ca ≠ x := (ne_of_none hx (s2.free fc)).symm
    refine ⟨_, rfl, x, T.C_Game, dx, [], rfl, x3, T.cl_Game, T.n_Game_options, by show 0 < 1000; decide, ?_⟩
    refine ⟨ca, ws, rfl, fun c o n e => by rw [upd_ne n]; exact s13 _ _ e, upd_same, by rw [upd_ne nx]; exact upd_same, L2.Paired.mapP p2 fun _ _ z => OptV.keep ((keepT_of s3).trans (keepT_ins x3 but_upd)) z⟩
  rintro σ1 H1 ⟨o, zo, rfl, b1, x1, eo, qo⟩
  have k1 := keepT_ins hx b1
  have hu1 := b1 _ _ nu hu
  have pu1 := L2.Paired.mapP pu fun _ _ z => VarV.keep k1 z
  refine ⟨fun σ' H' => ∃ (u : Addr) (vs : List V), σ' = [some (.ref x), some (.ref o1), some (.ref u1), some (.ref r1), none, none, none, none] ∧ But x H1 H' ∧ H' x = some (.ins T.C_Game dx [("options", .ref o), ("variables", .ref u)]) ∧ H' u = some (.tup vs) ∧ Paired (VarV H') vs us, ?_, ?_⟩
  · refine ⟨_, rfl, u1, rfl, ⟨_, SqL.of hu1⟩, fun D hD => ?_⟩
    refine lc_list (a := u1) (xs := uv) (fun i H2 => Same H1 H2 ∧ ∃ ws, H2 D = some (.lst ws) ∧ Paired (VarV H2) ws (us.take i)) ⟨same_upd hD, [], upd_same, .nil⟩ (fun i H2 _ h => SqL.of (h.1 _ _ hu1)) (fun i v H2 hv h => ?_) (fun H2 h => ?_)
    · obtain ⟨s2, ws, e2, p2⟩ := h
      obtain ⟨t, ht, U2, rfl, hU2⟩ := pgetC pu1 hv
      have l2 := paired_len p2
      rw [List.length_take] at l2
      refine ⟨U2, _, rfl, SqT.of (s2 _ _ hU2), rfl, _, _, rfl, _, _, rfl, rfl, ?_⟩
      refine ⟨rfl, ?_⟩
      refine ⟨_, rfl, _, rfl, by show 2 ≤ sizeLine; decide, fun U hU => ?_⟩
      have sU := same_upd (o := .tup [V.str t.1, .int t.2]) hU
      have nU : U ≠ D := (ne_of_none e2 hU).symm
      have kU := (keepT_of sU).trans (keepT_lst (ys := ws ++ [.ref U]) (sU _ _ e2))
      refine ⟨_, sU _ _ e2, small1000 (by omega), fun c o' e => ?_, _, upd_same, ?_⟩
      · rw [upd_ne (ne_of_none e hD)]
        exact sU _ _ (s2 _ _ e)
      · exact paired_take_snoc (L2.Paired.mapP p2 fun _ _ z => VarV.keep kU z) ht ⟨U, rfl, by rw [upd_ne nU]; exact upd_same⟩
    obtain ⟨s2, ws, e2, p2⟩ := h
    rw [show uv.length = us.length from paired_len pu1, List.take_of_length_le (Nat.le_refl _)] at p2
    refine ⟨D, _, rfl, .inl ⟨SqL.of e2, fun ca fc => ?_⟩⟩
    have s3 := same_upd (o := .tup ws) fc
    have s13 := s2.trans s3
    have x3 := s13 _ _ x1
    have nx : ca ≠ x := (ne_of_none x1 (s2.free fc)).symm
    refine ⟨_, rfl, x, T.C_Game, dx, [("options", .ref o)], rfl, x3, T.cl_Game, T.n_Game_variables, by show 1 < 1000; decide, ?_⟩
    rw [pf_new (show ("variables" : Str) ∉ (["options"] : List Str) by decide +kernel)]
    refine ⟨ca, ws, rfl, fun c o' n e => by rw [upd_ne n]; exact s13 _ _ e, upd_same, by rw [upd_ne nx]; exact upd_same, L2.Paired.mapP p2 fun _ _ z => VarV.keep ((keepT_of s3).trans (keepT_ins x3 but_upd)) z⟩
  rintro σ2 H2 ⟨u, zu, rfl, b2, x2, eu, qu⟩
  have k2 := keepT_ins x1 b2
  have hr2 := b2 _ _ nr (b1 _ _ nr hr')
  have pr2 := L2.Paired.mapP pr fun _ _ z => RndV.keep (k1.trans k2) z
  have eo2 := k2 _ _ eo
  have qo2 := L2.Paired.mapP qo fun _ _ z => OptV.keep k2 z
  refine ⟨_, rfl, r1, rfl, ⟨_, SqL.of hr2⟩, fun D hD => ?_⟩
  refine lc_list (a := r1) (xs := rv) (fun i H3 => Same H2 H3 ∧ ∃ ws, H3 D = some (.lst ws) ∧ Paired (RndV K H3) ws (rs.take i)) ⟨same_upd hD, [], upd_same, .nil⟩ (fun i H3 _ h => SqL.of (h.1 _ _ hr2)) (fun i v H3 hv h => ?_) (fun H3 h => ?_)
  · obtain ⟨s2, ws, e2, p2⟩ := h
    obtain ⟨t, ht, U2, b, zs, rfl, hU2, hb, hbv⟩ := pgetC pr2 hv
    have l2 := paired_len p2
    rw [List.length_take] at l2
    refine ⟨U2, _, rfl, SqT.of (s2 _ _ hU2), rfl, _, _, rfl, _, _, rfl, rfl, ?_⟩
    refine ⟨rfl, ?_⟩
    refine ⟨_, rfl, _, rfl, b, zs, rfl, .inr ⟨SqT.of (s2 _ _ hb), ?_⟩⟩
    refine ⟨by show 2 ≤ sizeLine; decide, fun U hU => ?_⟩
    have sU := same_upd (o := .tup [V.str t.1, .ref b]) hU
    have nU : U ≠ D := (ne_of_none e2 hU).symm
    have kW := keepT_lst (ys := ws ++ [.ref U]) (sU _ _ e2)
    have kU := (keepT_of sU).trans kW
    have kA := (keepT_of s2).trans kU
    refine ⟨_, sU _ _ e2, small1000 (by omega), fun c o' e => ?_, _, upd_same, ?_⟩
    · rw [upd_ne (ne_of_none e hD)]
      exact sU _ _ (s2 _ _ e)
    · exact paired_take_snoc (L2.Paired.mapP p2 fun _ _ z => RndV.keep kU z) ht ⟨U, b, zs, rfl, kW _ _ upd_same, kA _ _ hb, hbv.keep kA⟩
  obtain ⟨s2, ws, e2, p2⟩ := h
  rw [show rv.length = rs.length from paired_len pr2, List.take_of_length_le (Nat.le_refl _)] at p2
  refine ⟨D, _, rfl, .inl ⟨SqL.of e2, fun ca fc => ?_⟩⟩
  have s3 := same_upd (o := .tup ws) fc
  have s13 := s2.trans s3
  have x3 := s13 _ _ x2
  have nx : ca ≠ x := (ne_of_none x2 (s2.free fc)).symm
  refine ⟨_, rfl, x, T.C_Game, dx, [("options", .ref o), ("variables", .ref u)], rfl, x3, T.cl_Game, T.n_Game_rounds, by show 2 < 1000; decide, ?_⟩
  rw [pf_new (show ("rounds" : Str) ∉ (["options", "variables"] : List Str) by decide +kernel)]
  generalize eH9 : upd _ x _ = H9
  have b9 : But x _ H9 := eH9 ▸ but_upd
  have x9 : H9 x = some (.ins T.C_Game dx ([("options", .ref o), ("variables", .ref u), ("rounds", .ref ca)] : List (Str × V))) := eH9 ▸ upd_same
  clear eH9
  have k9 := keepT_ins x3 b9
  have kA := (keepT_of s13).trans k9
  exact q H9 (fun c o' n e => b9 _ _ n (s13 _ _ (b2 _ _ n (b1 _ _ n e)))) ⟨dx, o, u, ca, zo, zu, ws, x9, kA _ _ eo2, L2.Paired.mapP qo2 fun _ _ z => OptV.keep kA z, kA _ _ eu, L2.Paired.mapP qu fun _ _ z => VarV.keep kA z, k9 _ _ upd_same, L2.Paired.mapP p2 fun _ _ z => RndV.keep ((keepT_of s3).trans k9) z⟩
/-! ### split_words -/
def sp_split_words (T : Txt K mg) : Sp := fun vs H Q _ => ∃ (x : Str), vs = [.str x] ∧ x.length ≤ 1000000 ∧ ∀ (p : Addr) (H' : Hp) (ws : List Str), Same H H' → H p = none → Parts ws x → H' p = some (.lst (ws.map V.str)) → Q (.ref p) H'

theorem ok_split_words (T : Txt K mg) : FnOk P w K mg base CX0 1 T.a_split_words T.d_split_words ["text"] (sp_split_words T) := by
  refine T.F_split_words.ok sc_split_words (fun vs H Q E h => ?_) (fun cdv A outer s H vs Q E hr h => ?_)
  · obtain ⟨x, rfl, _⟩ := h
    rfl
  obtain ⟨x, rfl, hl, q⟩ := h
  refine ⟨_, (pss_cons (ps_if (pt_cmpR op_eq (pv 0) pe_str (nomark _)) (pss_one (ps_ret (pe_lst pa_nil))) pss_nil)
      (pss_one (ps_ret (pe_bm PySem.F.plainAttrs_str PySem.F.slot_str_split PySem.F.type_str_split mt_split (pv 0) (pa_cons pe_str pa_nil))))), ?_⟩
  refine ⟨_, rfl, rfl, _, rfl, ite2 (fun c => ?_) (fun c => ?_)⟩
  · have e : x = "" := V.str.inj (of_decide_eq_true c)
    subst e
    refine ⟨by show 0 ≤ sizeLine; decide, fun p hp => ?_⟩
    exact q p _ [] (same_upd hp) hp (.inl ⟨rfl, rfl⟩) upd_same
  · have e : x ≠ "" := fun z => c (decide_eq_true (congrArg V.str z))
    have h0 : 0 < x.length := by
      refine Nat.pos_of_ne_zero fun z => e (ext_toList ?_)
      have : x.cps.toList = [] := List.eq_nil_of_length_eq_zero z
      rw [this]
      rfl
    refine ⟨_, rfl, rfl, x, _, rfl, rfl, by decide +kernel, Nat.le_trans (Nat.add_le_add_right hl 2) (by decide), fun p hp => ?_⟩
    exact q p _ _ (same_upd hp) hp (parts_split h0) upd_same
/-! ### join_words -/
def sp_join_words (T : Txt K mg) : Sp := fun vs H Q _ => ∃ (p : Addr) (ws : List Str), vs = [.ref p] ∧ SqL K H p (ws.map V.str) ∧ (ws.map (·.length)).sum + ws.length ≤ 2000000 ∧ Q (.str (tx ws)) H

theorem ok_join_words (T : Txt K mg) : FnOk P w K mg base CX0 1 T.a_join_words T.d_join_words ["words"] (sp_join_words T) := by
  refine T.F_join_words.ok sc_join_words (fun vs H Q E h => ?_) (fun cdv A outer s H vs Q E hr h => ?_)
  · obtain ⟨p, ws, rfl, _⟩ := h
    rfl
  obtain ⟨p, ws, rfl, hp, hl, q⟩ := h
  refine ⟨_, (pss_one (ps_ret (pe_bm PySem.F.plainAttrs_str PySem.F.slot_str_join PySem.F.type_str_join mt_join pe_str (pa_cons (pv 0) pa_nil)))), ?_⟩
  refine ⟨rfl, _, rfl, (⟨#[32]⟩ : Str), p, ws, rfl, rfl, .inl hp, ?_, q⟩
  show (ws.map (·.length)).sum + ws.length * 1 ≤ 16777216
  omega
/-! ### is_name -/
def sp_is_name (T : Txt K mg) : Sp := fun vs H Q _ => ∃ (x : Str), vs = [.str x] ∧ x.length ≤ 100 ∧ ∀ (b : Bool) (H' : Hp), Same H H' → (b = true ↔ NameP x) → Q (.bl b) H'

theorem ok_is_name (T : Txt K mg) : FnOk P w K mg base CX0 1 T.a_is_name T.d_is_name ["word"] (sp_is_name T) := by
  refine T.F_is_name.ok sc_is_name (fun vs H Q E h => ?_) (fun cdv A outer s H vs Q E hr h => ?_)
  · obtain ⟨x, rfl, _⟩ := h
    rfl
  obtain ⟨x, rfl, hl, q⟩ := h
  refine ⟨_, (pss_cons (ps_if (PW.pt (pw_or (pt_not (pt_chain op_le op_le pe_int (pe_callB call_len_str (by rfl) T.z_len (by first | exact PySem.boot_len | decide +kernel) (pa_cons (pv 0) pa_nil)) (pe_glob (by rfl) T.g_LONGEST_NAME T.r_LONGEST_NAME))) (pw_or1 (pt_cmpR op_in_seq (pv 0) (pe_glob (v := .ref T.A_KEY_WORDS) (by rfl) T.g_KEY_WORDS rfl) (by with_unfolding_all rfl))))) (pss_one (ps_ret pe_bl)) pss_nil)
      (pss_one (ps_ret (pe_and (pe_cmpR op_in_sign (pe_ix ix_str (pv 0) pe_int (fun _ _ => rfl)) (pe_glob (by rfl) T.g_LETTERS T.r_LETTERS) (by with_unfolding_all rfl)) (pe_one (pe_callB (cr_all rfl) (by rfl) T.z_all (by first | exact PySem.boot_all | decide +kernel) (pa_cons (pe_lc (own := [("sign", 1)]) (g := gName 1) (tt := tYes) rfl sc_is_name.nd (pi_str (pv 0)) (blkOk_by (N := N_is_name) (sc := defScope s_is_name) (by decide +kernel)) (fun _ _ _ _ _ => (pg_name (i := 1) sc_is_name.nd rfl (by first | exact Or.inl rfl | exact Or.inr rfl))) (fun _ _ _ _ _ => pts_nil) (fun _ _ _ _ _ => (pe_cmpR op_in_sign (pv 1) (pe_glob (by rfl) T.g_LETTERS_AND_DIGITS T.r_LETTERS_AND_DIGITS) (by with_unfolding_all rfl)))) pa_nil))))))), ?_⟩
  have hx0 : x.length = x.cps.toList.length := rfl
  have tkA : x.cps.toList.take x.cps.size = x.cps.toList := List.take_of_length_le (Nat.le_refl _)
  refine ⟨_, rfl, x, rfl, small_le (by omega), _, _, rfl, rfl, _, rfl, ite2 (fun c1 => ?_) (fun c1 => ?_)⟩
  · refine ⟨_, _, rfl, rfl, _, rfl, ite2 (fun c2 => ?_) (fun c2 => ?_)⟩
    · refine iteT ?_
      refine q false H (fun _ _ h => h) ⟨fun z => (by cases z), fun z => ?_⟩
      have c2' : ¬ ((x.length : Int) ≤ 12) := fun y => by
        rw [decide_eq_true y] at c2
        cases c2
      exact absurd z.2.1 (by omega)
    · have c2' : (x.length : Int) ≤ 12 := by
        by_cases y : (x.length : Int) ≤ 12
        · exact y
        · rw [decide_eq_false y] at c2
          exact absurd rfl c2
      have c1' : (1 : Int) ≤ (x.length : Int) := of_decide_eq_true c1
      refine ⟨_, rfl, T.A_KEY_WORDS, keyV, rfl, .inr (T.q_KEY_WORDS H), rfl, key_flat, _, rfl, ite2 (fun c3 => ?_) (fun c3 => ?_)⟩
      · refine q false H (fun _ _ h => h) ⟨fun z => (by cases z), fun z => ?_⟩
        have c3' : inV (.str x) keyV = true := c3
        rw [z.2.2.1] at c3'
        cases c3'
      · have c3' : inV (.str x) keyV = false := by
          cases e : inV (.str x) keyV with
          | false => rfl
          | true => exact absurd e c3
        have hlen : 0 < x.cps.toList.length := by
          have : x.length = x.cps.toList.length := rfl
          omega
        have g0 : x.cps.toList[0]? = some (x.cps.toList[0]) := List.getElem?_eq_getElem hlen
        generalize x.cps.toList[0] = c0 at g0
        have key := name_iff g0
        refine ⟨_, rfl, x, 0, c0, rfl, rfl, small_le (by omega), at_ofG (j := 0) rfl g0, c0, lettersS, rfl, rfl, _, rfl, ite2 (fun c4 => ?_) (fun c4 => ?_)⟩
        · have c4' : c0 ∈ loL := by rw [← letters_eq]; exact of_decide_eq_true c4
          refine ⟨_, rfl, x, rfl, fun D hD => ?_⟩
          refine lc_it (walk_str (z := x)) (fun i H' => Same H H' ∧ H' D = some (.lst (((x.cps.toList.take i).map fun c => decide (c ∈ ldL)).map V.bl))) ⟨same_upd hD, upd_same⟩ (fun _ _ _ _ => trivial) (fun i y H5 H6 hi ⟨s5, e5⟩ ⟨e6, c, gc, ey⟩ => ?_) (fun H5 ⟨s5, e5⟩ => ?_)
          · subst e6
            subst ey
            have gl : x.cps.toList[i]? = some c := by rw [Array.getElem?_toList]; exact gc
            have tk : x.cps.toList.take (i + 1) = x.cps.toList.take i ++ [c] := by rw [List.take_add_one, gl]; rfl
            refine ⟨rfl, ?_⟩
            refine ⟨_, rfl, c, ldS, rfl, rfl, _, e5, ?_, ?_, ?_⟩
            · rw [List.length_map, List.length_map, List.length_take]
              exact small1000 (by omega)
            · intro b o eb
              rw [upd_ne (ne_of_none eb hD)]
              exact s5 b o eb
            · rw [upd_same, tk, List.map_append, List.map_append, ← ld_eq]
              rfl
          · refine ⟨D, _, rfl, SqL.of e5, ?_⟩
            refine q _ _ s5 ⟨fun z => ?_, fun z => ?_⟩
            · rw [tkA] at z
              exact ⟨by omega, by omega, c3', key.mp ⟨c4', all_iff.mp z⟩⟩
            · rw [tkA]
              exact all_iff.mpr (key.mpr z.2.2.2).2
        · refine q false H (fun _ _ h => h) ⟨fun z => (by cases z), fun z => ?_⟩
          refine absurd (decide_eq_true ?_) c4
          have := (key.mpr z.2.2.2).1
          rw [← letters_eq] at this
          exact this
  · refine ⟨_, rfl, iteT (iteT ?_)⟩
    refine q false H (fun _ _ h => h) ⟨fun z => (by cases z), fun z => ?_⟩
    exact absurd (decide_eq_true (show (1 : Int) ≤ (x.length : Int) by have := z.1; omega)) c1
/-! ### number_of -/
def sp_number_of (T : Txt K mg) : Sp := fun vs H Q _ => ∃ (x : Str), vs = [.str x] ∧ Asc x ∧ x.length ≤ 100 ∧ ∀ (r : V), NumR x r → Q r H

theorem ok_number_of (T : Txt K mg) : FnOk P w K mg base CX0 1 T.a_number_of T.d_number_of ["word"] (sp_number_of T) := by
  refine T.F_number_of.ok sc_number_of (fun vs H Q E h => ?_) (fun cdv A outer s H vs Q E hr h => ?_)
  · obtain ⟨x, rfl, _⟩ := h
    rfl
  obtain ⟨x, rfl, ha, hl, q⟩ := h
  refine ⟨_, (pss_cons (ps_if (PW.pt (pw_or (pt_cmpR op_gt (pe_callB call_len_str (by rfl) T.z_len (by first | exact PySem.boot_len | decide +kernel) (pa_cons (pv 0) pa_nil)) (pe_glob (by rfl) T.g_LONGEST_NUMBER T.r_LONGEST_NUMBER) (nomark _)) (pw_or (pt_not (pt_truth (pe_bm0 PySem.F.plainAttrs_str PySem.F.slot_str_isascii PySem.F.type_str_isascii mt_isascii (pv 0)) (fun _ => rfl))) (pw_or1 (pt_not (pt_truth (pe_bm0 PySem.F.plainAttrs_str PySem.F.slot_str_isdigit PySem.F.type_str_isdigit mt_isdigit (pv 0)) (fun _ => rfl))))))) (pss_one (ps_ret pe_non)) pss_nil)
      (pss_cons (ps_set (i := 1) sc_number_of.nd rfl (by first | exact Or.inl rfl | exact Or.inr rfl) (pe_callTy call_int_str (by rfl) T.z_int (by first | exact PySem.boot_int | decide +kernel) (pa_cons (pv 0) pa_nil)))
      (pss_cons (ps_if (PW.pt (pw_or (pt_cmpR op_gt (pv 1) (pe_glob (by rfl) T.g_GREATEST_NUMBER T.r_GREATEST_NUMBER) (nomark _)) (pw_or1 (pt_cmpR op_ne (pe_callTy call_str_int (by rfl) T.z_str (by first | exact PySem.boot_str | decide +kernel) (pa_cons (pv 1) pa_nil)) (pv 0) (nomark _))))) (pss_one (ps_ret pe_non)) pss_nil)
      (pss_one (ps_ret (pv 1)))))), ?_⟩
  have hx0 : x.length = x.cps.toList.length := rfl
  refine ⟨_, rfl, x, rfl, small_le (by omega), _, _, rfl, rfl, _, rfl, ite2 (fun c1 => ?_) (fun c1 => ?_)⟩
  · have c1' : (5 : Int) < (x.length : Int) := of_decide_eq_true c1
    refine q _ (.inr ⟨fun n hn e => ?_, rfl⟩)
    have := TL.numL_len (n := n) (k := 5) (by decide) (by omega)
    rw [← e] at this
    omega
  · refine ⟨_, rfl, rfl, x, rfl, rfl, trivial, _, rfl, ?_⟩
    rw [asc_isascii ha]
    refine iteF ?_
    refine ⟨_, rfl, rfl, x, rfl, rfl, trivial, _, rfl, ite2 (fun c2 => ?_) (fun c2 => ?_)⟩
    · refine q _ (.inr ⟨fun n hn e => ?_, rfl⟩)
      have : Txt.isdigit x = true := (isdigit_iff ha).mpr ⟨by rw [e]; exact TL.numL_digits n, by rw [e]; exact TL.numL_ne n⟩
      rw [this] at c2
      cases c2
    · have hd : Txt.isdigit x = true := by
        cases e : Txt.isdigit x with
        | true => rfl
        | false =>
          rw [e] at c2
          exact absurd rfl c2
      obtain ⟨hd1, hd2⟩ := (isdigit_iff ha).mp hd
      have hv := PySem.intText_digits hd1 hd2 (by omega)
      generalize ev : NumText.digitsVal x.cps.toList = v at hv
      have uniq : ∀ n, x.cps.toList = TL.numL n → n = v := fun n e => by rw [← ev, e, TL.numL_val]
      refine ⟨_, rfl, x, _, rfl, hv, by omega, ?_⟩
      refine ⟨_, rfl, _, _, rfl, rfl, _, rfl, ite2 (fun c3 => ?_) (fun c3 => ?_)⟩
      · have c3' : (65535 : Int) < (v : Int) := of_decide_eq_true c3
        refine q _ (.inr ⟨fun n hn e => ?_, rfl⟩)
        have := uniq n e
        omega
      · have c3' : ¬ (65535 : Int) < (v : Int) := fun z => c3 (decide_eq_true z)
        refine ⟨_, rfl, _, rfl, log_small (Nat.lt_of_le_of_lt (show v ≤ 65535 by omega) (by decide +kernel)), _, rfl, rfl, _, rfl, ite2 (fun c4 => ?_) (fun c4 => ?_)⟩
        · refine q _ (.inr ⟨fun n hn e => ?_, rfl⟩)
          have e1 := uniq n e
          subst e1
          rw [decide_eq_true (congrArg V.str (str_num e))] at c4
          cases c4
        · refine ⟨_, rfl, q _ (.inl ⟨v, by omega, ?_, rfl⟩)⟩
          by_cases y : V.str (Str.ofString (toString ((v : Nat) : Int))) = V.str x
          · exact num_str y
          · exact absurd (by rw [decide_eq_false y]; rfl) c4
/-! ### Cursor.word -/
def sp_Cursor_word (T : Txt K mg) : Sp := fun vs H Q _ => ∃ (c : CuI) (i : Nat), vs = [.ref c.a] ∧ CuX K T.C_Cursor H c i ∧ Q (hereV c.ws i) H

theorem ok_Cursor_word (T : Txt K mg) : FnOk P w K mg base CX0 1 T.a_Cursor_word T.d_Cursor_word ["self"] (sp_Cursor_word T) := by
  refine T.F_Cursor_word.ok sc_Cursor_word (fun vs H Q E h => ?_) (fun cdv A outer s H vs Q E hr h => ?_)
  · obtain ⟨c, i, rfl, _⟩ := h
    rfl
  obtain ⟨c, i, rfl, ⟨hle, ⟨dx, ha⟩, hw, hz1, hz2⟩, q⟩ := h
  refine ⟨_, (pss_cons (ps_if (pt_cmpR op_lt (pe_fld (pv 0) rfl) (pe_callB call_len_seq (by rfl) T.z_len (by first | exact PySem.boot_len | decide +kernel) (pa_cons (pe_fld (pv 0) rfl) pa_nil)) (nomark _)) (pss_one (ps_ret (pe_ix ix_list (pe_fld (pv 0) rfl) (pe_fld (pv 0) rfl) (fun _ _ => rfl)))) pss_nil)
      (pss_one (ps_ret pe_non))), ?_⟩
  refine ⟨_, rfl, c.a, T.C_Cursor, dx, _, _, rfl, ha, T.cl_Cursor, T.n_Cursor_at, lk_ix cgNd 4 rfl, _, rfl, c.a, T.C_Cursor, dx, _, _, rfl, ha, T.cl_Cursor, T.n_Cursor__words, lk_ix cgNd 0 rfl, c.wl, _, rfl, .inl (SqL.of hw), _, _, rfl, rfl, _, rfl, ite2 (fun z => ?_) (fun z => ?_)⟩
  · have c' : (i : Int) < (((c.ws.map V.str).length : Nat) : Int) := of_decide_eq_true z
    rw [List.length_map] at c'
    have hl : i < c.ws.length := by omega
    have e : c.ws[i]? = some c.ws[i] := List.getElem?_eq_getElem hl
    have eq : hereV c.ws i = .str c.ws[i] := by unfold hereV; rw [e]
    rw [eq] at q
    exact ⟨_, rfl, c.a, T.C_Cursor, dx, _, _, rfl, ha, T.cl_Cursor, T.n_Cursor__words, lk_ix cgNd 0 rfl, _, rfl, c.a, T.C_Cursor, dx, _, _, rfl, ha, T.cl_Cursor, T.n_Cursor_at, lk_ix cgNd 4 rfl, c.wl, _, _, _, rfl, rfl, SqL.of hw, at_ofG (j := i) rfl (by rw [List.getElem?_map, e]; rfl), q⟩
  · have c' : ¬ (i : Int) < (((c.ws.map V.str).length : Nat) : Int) := fun y => z (decide_eq_true y)
    rw [List.length_map] at c'
    have eq : hereV c.ws i = .non := by unfold hereV; rw [List.getElem?_eq_none (by omega)]
    rw [eq] at q
    exact q
/-! ### Cursor._pass_if@x -/
def sp_Cursor_pass_if_x (T : Txt K mg) : Sp := fun vs H Q E => ∃ (c : CuI) (i : Nat) (b : Bool), vs = [.ref c.a, .bl b] ∧ CuX K T.C_Cursor H c i ∧ i < 100000 ∧ (b = true → i + 1 ≤ c.ws.length) ∧ (b = true → ∀ H', But c.a H H' → CuX K T.C_Cursor H' c (i + 1) → Q .non H') ∧
  (b = false → ∀ d H', Same H H' → H d = none → H' d = some (.xd [("at", .int (i : Nat))]) → E (.ref T.C_BadText) (some d) H')

theorem ok_Cursor_pass_if_x (T : Txt K mg) : FnOk P w K mg base (L2.CX P w) 4 T.a_Cursor_pass_if T.d_Cursor_pass_if ["self", "fits"] (sp_Cursor_pass_if_x T) := by
  refine T.F_Cursor_pass_if.okX sc_Cursor_pass_if (fun vs H Q E h => ?_) (fun cdv A outer s H vs Q E hr h => ?_)
  · obtain ⟨c, i, b, rfl, _⟩ := h
    rfl
  obtain ⟨c, i, b, rfl, ⟨hle, ⟨dx, ha⟩, hw, hz1, hz2⟩, hi, hlt, k1, k2⟩ := h
  refine ⟨_, (pss_cons (ps_if (pt_not (pt_truth (pv 1) (fun _ => rfl))) (pss_one (ps_raise rfl (takes_of rfl rfl rfl rfl) (pmk_oex T.e_BadText.ox T.e_BadText.ini T.e_BadText.ty (ok_BadText_init T) (hr.mono (by decide)) T.b_BadText_init .nil pass0 (by rfl) T.m_BadText (pa_cons (pe_fld (pv 0) rfl) pa_nil)))) pss_nil)
      (pss_one (ps_fldaug (pv 0) pe_int in_add))), ?_⟩
  have nw : c.wl ≠ c.a := fun z => by rw [z, ha] at hw; cases hw
  refine ⟨_, rfl, _, rfl, ?_⟩
  cases b with
  | false =>
    refine iteT ?_
    exact ⟨_, rfl, c.a, T.C_Cursor, dx, _, _, rfl, ha, T.cl_Cursor, T.n_Cursor_at, lk_ix cgNd 4 rfl, raise_ok ⟨_, rfl, by omega, by omega⟩ (k2 rfl)⟩
  | true =>
    refine iteF ?_
    refine ⟨_, rfl, c.a, T.C_Cursor, dx, _, _, rfl, ha, T.cl_Cursor, T.n_Cursor_at, lk_ix cgNd 4 rfl, _, _, rfl, rfl, dx, _, ha, by show 5 < 1000; decide, ?_⟩
    rw [pf_ix cgNd 4 rfl]
    refine k1 rfl _ but_upd ⟨hlt rfl, ⟨dx, ?_⟩, by rw [upd_ne nw]; exact hw, sqT_ins hz1 ha but_upd, sqT_ins hz2 ha but_upd⟩
    rw [upd_same]
    rfl
/-! ### Cursor.take_word@x -/
def sp_Cursor_take_word_x (T : Txt K mg) : Sp := fun vs H Q E => ∃ (c : CuI) (i : Nat) (w : Str), vs = [.ref c.a, .str w] ∧ CuX K T.C_Cursor H c i ∧ i < 100000 ∧ DeedX K T.C_Cursor T.C_BadText H c i (.word w) Q E

theorem ok_Cursor_take_word_x (T : Txt K mg) : FnOk P w K mg base (L2.CX P w) 5 T.a_Cursor_take_word T.d_Cursor_take_word ["self", "word"] (sp_Cursor_take_word_x T) := by
  refine T.F_Cursor_take_word.okX sc_Cursor_take_word (fun vs H Q E h => ?_) (fun cdv A outer s H vs Q E hr h => ?_)
  · obtain ⟨c, i, w, rfl, _⟩ := h
    rfl
  obtain ⟨c, i, w, rfl, hC, hi, k1, k2⟩ := h
  refine ⟨_, (pss_one (ps_expr (pe_methT (pv 0) T.cl_Cursor T.me_Cursor_pass_if (ok_Cursor_pass_if_x T) (hr.mono (by decide)) T.b_Cursor_pass_if .nil (fun σ => passAt (takes_of rfl rfl rfl rfl) σ) (pa_cons (pe_cmpR op_eq (pe_prop (pv 0) T.cl_Cursor T.pr_Cursor_word (ok_Cursor_word T) (hr.mono (by decide)) T.b_Cursor_word .nil pass0 rfl) (pv 1) (nomark _)) pa_nil)))), ?_⟩
  obtain ⟨hle, ⟨dx, ha⟩, hw, hz1, hz2⟩ := id hC
  refine ⟨_, rfl, c.a, dx, _, rfl, ha, cg_no cu_meths.1, _, rfl, c.a, dx, _, rfl, ha, c, i, rfl, hC, _, rfl, here_scal, ?_⟩
  refine ⟨c, i, _, rfl, hC, hi, fun hb => ?_, fun hb H' b z => ?_, fun hb => k2 fun x v e f => ?_⟩
  · have e : hereV c.ws i = .str w := of_decide_eq_true hb
    unfold hereV at e
    split at e
    · rename_i x hx
      exact here_lt hx
    · cases e
  · have e : hereV c.ws i = .str w := of_decide_eq_true hb
    unfold hereV at e
    split at e
    · rename_i x hx
      exact k1 x .non hx ⟨V.str.inj e, rfl⟩ H' b z
    · cases e
  · have e2 : hereV c.ws i = .str w := by unfold hereV; rw [e, f.1]
    rw [decide_eq_true e2] at hb
    cases hb
/-! ### Cursor.take_number@x -/
def sp_Cursor_take_number_x (T : Txt K mg) : Sp := fun vs H Q E => ∃ (c : CuI) (i : Nat) (l m : Int), vs = [.ref c.a, .int l, .int m] ∧ CuX K T.C_Cursor H c i ∧ i < 100000 ∧ Wds c.ws ∧ DeedX K T.C_Cursor T.C_BadText H c i (.num l m) Q E

theorem ok_Cursor_take_number_x (T : Txt K mg) : FnOk P w K mg base (L2.CX P w) 5 T.a_Cursor_take_number T.d_Cursor_take_number ["self", "least", "most"] (sp_Cursor_take_number_x T) := by
  refine T.F_Cursor_take_number.okX sc_Cursor_take_number (fun vs H Q E h => ?_) (fun cdv A outer s H vs Q E hr h => ?_)
  · obtain ⟨c, i, l, m, rfl, _⟩ := h
    rfl
  obtain ⟨c, i, l, m, rfl, hC, hi, hW, k1, k2⟩ := h
  refine ⟨_, (pss_cons (ps_set (i := 3) sc_Cursor_take_number.nd rfl (by first | exact Or.inl rfl | exact Or.inr rfl) (pe_prop (pv 0) T.cl_Cursor T.pr_Cursor_word (ok_Cursor_word T) (hr.mono (by decide)) T.b_Cursor_word .nil pass0 rfl))
      (C8.pss_cut (ps_set (i := 4) sc_Cursor_take_number.nd rfl (by first | exact Or.inl rfl | exact Or.inr rfl) (pe_ifExp (pt_cmpR op_isN (pv 3) pe_non (nomark _)) pe_non (pe_call (ok_number_of T) (hr.mono (by decide)) (by rfl) T.m_number_of T.F_number_of.kp T.b_number_of .nil pass0 (pa_cons (pv 3) pa_nil))))
      (pss_cons (ps_expr (pe_methT (pv 0) T.cl_Cursor T.me_Cursor_pass_if (ok_Cursor_pass_if_x T) (hr.mono (by decide)) T.b_Cursor_pass_if .nil (fun σ => passAt (takes_of rfl rfl rfl rfl) σ) (pa_cons (pe_and (pe_cmpR op_notN (pv 4) pe_non (nomark _)) (pe_one (pe_chain op_le op_le (pv 1) (pv 4) (pv 2)))) pa_nil)))
      (pss_one (ps_ret (pv 4)))))), ?_⟩
  obtain ⟨hle, ⟨dx, ha⟩, hw, hz1, hz2⟩ := id hC
  refine ⟨_, rfl, c.a, dx, _, rfl, ha, c, i, rfl, hC, ?_⟩
  refine ⟨fun σ' H' => ∃ r : V, σ' = [some (.ref c.a), some (.int l), some (.int m), some (hereV c.ws i), some r] ∧ H' = H ∧ ((c.ws[i]? = none ∧ r = .non) ∨ ∃ x, c.ws[i]? = some x ∧ NumR x r), ?_, ?_⟩
  · cases e : c.ws[i]? with
    | none =>
      have eh : hereV c.ws i = .non := by unfold hereV; rw [e]
      rw [eh]
      exact ⟨_, rfl, rfl, _, rfl, iteT ⟨_, rfl, rfl, .inl ⟨rfl, rfl⟩⟩⟩
    | some x =>
      have eh : hereV c.ws i = .str x := by unfold hereV; rw [e]
      rw [eh]
      have hx := hW x (List.mem_of_getElem? e)
      exact ⟨_, rfl, rfl, _, rfl, iteF ⟨_, rfl, x, rfl, hx.1, hx.2, fun r hr => ⟨_, rfl, rfl, .inr ⟨x, rfl, hr⟩⟩⟩⟩
  rintro σ1 H1 ⟨r, rfl, rfl, hr'⟩
  refine ⟨_, rfl, c.a, dx, _, rfl, ha, cg_no cu_meths.1, _, rfl, rfl, _, rfl, ?_⟩
  have non : (c.ws[i]? = none ∨ ∃ x, c.ws[i]? = some x ∧ ∀ n : Nat, n ≤ 65535 → x.cps.toList ≠ TL.numL n) → ∀ x v, c.ws[i]? = some x → ¬ Fit (.num l m) x v := fun h x v e f => by
    obtain ⟨n, h1, h2, _⟩ := f
    rcases h with h | ⟨y, h, g⟩
    · rw [h] at e; cases e
    · rw [h] at e
      cases e
      exact g n h1 h2
  have fail : r = .non → (c.ws[i]? = none ∨ ∃ x, c.ws[i]? = some x ∧ ∀ n : Nat, n ≤ 65535 → x.cps.toList ≠ TL.numL n) := fun z => by
    rcases hr' with ⟨h, _⟩ | ⟨x, h, ⟨n, _, _, g⟩ | ⟨g, _⟩⟩
    · exact .inl h
    · rw [z] at g
      cases g
    · exact .inr ⟨x, h, g⟩
  by_cases z : r = .non
  · have := non (fail z)
    subst z
    refine iteF ?_
    refine ⟨c, i, _, rfl, hC, hi, fun hb => Bool.noConfusion hb, fun hb => Bool.noConfusion hb, fun _ => k2 this⟩
  · obtain ⟨x, e, n, n1, n2, rfl⟩ : ∃ x, c.ws[i]? = some x ∧ ∃ n : Nat, n ≤ 65535 ∧ x.cps.toList = TL.numL n ∧ r = .int n := by
      rcases hr' with ⟨_, h⟩ | ⟨x, h, g | ⟨_, g⟩⟩
      · exact absurd h z
      · exact ⟨x, h, g⟩
      · exact absurd g z
    refine iteT ?_
    have bad : ¬ (l ≤ (n : Int) ∧ (n : Int) ≤ m) → ∀ x v, c.ws[i]? = some x → ¬ Fit (.num l m) x v := fun h x' v e' f => by
      rw [e] at e'
      cases e'
      obtain ⟨n', g1, g2, g3, g4, _⟩ := f
      have := TL.numL_inj (n2.symm.trans g2)
      subst this
      exact h ⟨g3, g4⟩
    refine ⟨_, rfl, _, rfl, _, _, rfl, rfl, _, rfl, ite2 (fun c1 => ?_) (fun c1 => ?_)⟩
    · refine ⟨_, rfl, _, _, rfl, rfl, ?_⟩
      exact ⟨c, i, _, rfl, hC, hi, fun _ => here_lt e, fun h H' b y => ⟨_, rfl, k1 x (.int n) e ⟨n, n1, n2, of_decide_eq_true c1, of_decide_eq_true h, rfl⟩ H' b y⟩, fun h => k2 (bad fun g => by
        rw [decide_eq_true g.2] at h
        cases h)⟩
    · exact ⟨c, i, _, rfl, hC, hi, fun h => Bool.noConfusion h, fun h => Bool.noConfusion h, fun _ => k2 (bad fun g => c1 (decide_eq_true g.1))⟩
/-! ### Cursor.take_name@x -/
def sp_Cursor_take_name_x (T : Txt K mg) : Sp := fun vs H Q E => ∃ (c : CuI) (pn : Addr) (ns : List Str) (i : Nat), vs = [.ref c.a, .ref pn] ∧ CuX K T.C_Cursor H c i ∧ (SqL K H pn (ns.map V.str) ∨ SqT K H pn (ns.map V.str)) ∧ i < 100000 ∧ DeedX K T.C_Cursor T.C_BadText H c i (.name ns) Q E

theorem ok_Cursor_take_name_x (T : Txt K mg) : FnOk P w K mg base (L2.CX P w) 5 T.a_Cursor_take_name T.d_Cursor_take_name ["self", "names"] (sp_Cursor_take_name_x T) := by
  refine T.F_Cursor_take_name.okX sc_Cursor_take_name (fun vs H Q E h => ?_) (fun cdv A outer s H vs Q E hr h => ?_)
  · obtain ⟨c, pn, ns, i, rfl, _⟩ := h
    rfl
  obtain ⟨c, pn, ns, i, rfl, hC, hn, hi, k1, k2⟩ := h
  refine ⟨_, (pss_cons (ps_set (i := 2) sc_Cursor_take_name.nd rfl (by first | exact Or.inl rfl | exact Or.inr rfl) (pe_prop (pv 0) T.cl_Cursor T.pr_Cursor_word (ok_Cursor_word T) (hr.mono (by decide)) T.b_Cursor_word .nil pass0 rfl))
      (pss_cons (ps_expr (pe_methT (pv 0) T.cl_Cursor T.me_Cursor_pass_if (ok_Cursor_pass_if_x T) (hr.mono (by decide)) T.b_Cursor_pass_if .nil (fun σ => passAt (takes_of rfl rfl rfl rfl) σ) (pa_cons (pe_and (pe_cmpR op_notN (pv 2) pe_non (nomark _)) (pe_one (pe_cmpR op_in_seq (pv 2) (pv 1) (by with_unfolding_all rfl)))) pa_nil)))
      (pss_one (ps_ret (pv 2))))), ?_⟩
  obtain ⟨hle, ⟨dx, ha⟩, hw, hz1, hz2⟩ := id hC
  refine ⟨_, rfl, c.a, dx, _, rfl, ha, c, i, rfl, hC, ?_⟩
  refine ⟨_, rfl, c.a, dx, _, rfl, ha, cg_no cu_meths.1, _, rfl, rfl, _, rfl, ?_⟩
  cases e : c.ws[i]? with
  | none =>
    have eh : hereV c.ws i = .non := by unfold hereV; rw [e]
    rw [eh]
    refine iteF ?_
    refine ⟨c, i, _, rfl, hC, hi, fun hb => Bool.noConfusion hb, fun hb => Bool.noConfusion hb, fun _ => k2 fun x v e' _ => by rw [e] at e'; cases e'⟩
  | some x =>
    have eh : hereV c.ws i = .str x := by unfold hereV; rw [e]
    rw [eh]
    refine iteT ?_
    refine ⟨_, rfl, _, rfl, pn, ns.map V.str, rfl, hn, rfl, strs_flat ns, ?_⟩
    refine ⟨c, i, _, rfl, hC, hi, fun _ => here_lt e, fun hb H' b z => ⟨_, rfl, k1 x (.str x) e ⟨inv_t hb, rfl⟩ H' b z⟩, fun hb => k2 fun x' v e' f' => ?_⟩
    rw [e] at e'
    cases e'
    rw [inV_strs, decide_eq_true f'.1] at hb
    cases hb
/-! ### Cursor.take_new_name@x -/
def sp_Cursor_take_new_name_x (T : Txt K mg) : Sp := fun vs H Q E => ∃ (c : CuI) (pn : Addr) (ns : List Str) (i : Nat), vs = [.ref c.a, .ref pn] ∧ CuX K T.C_Cursor H c i ∧ H pn = some (.lst (ns.map V.str)) ∧ i < 100000 ∧ Wds c.ws ∧ DeedX K T.C_Cursor T.C_BadText H c i (.fresh ns) Q E

theorem ok_Cursor_take_new_name_x (T : Txt K mg) : FnOk P w K mg base (L2.CX P w) 5 T.a_Cursor_take_new_name T.d_Cursor_take_new_name ["self", "names"] (sp_Cursor_take_new_name_x T) := by
  refine T.F_Cursor_take_new_name.okX sc_Cursor_take_new_name (fun vs H Q E h => ?_) (fun cdv A outer s H vs Q E hr h => ?_)
  · obtain ⟨c, pn, ns, i, rfl, _⟩ := h
    rfl
  obtain ⟨c, pn, ns, i, rfl, hC, hn, hi, hW, k1, k2⟩ := h
  refine ⟨_, (pss_cons (ps_set (i := 2) sc_Cursor_take_new_name.nd rfl (by first | exact Or.inl rfl | exact Or.inr rfl) (pe_prop (pv 0) T.cl_Cursor T.pr_Cursor_word (ok_Cursor_word T) (hr.mono (by decide)) T.b_Cursor_word .nil pass0 rfl))
      (pss_cons (ps_expr (pe_methT (pv 0) T.cl_Cursor T.me_Cursor_pass_if (ok_Cursor_pass_if_x T) (hr.mono (by decide)) T.b_Cursor_pass_if .nil (fun σ => passAt (takes_of rfl rfl rfl rfl) σ) (pa_cons (pe_and (pe_cmpR op_notN (pv 2) pe_non (nomark _)) (pe_and (pe_call (ok_is_name T) (hr.mono (by decide)) (by rfl) T.m_is_name T.F_is_name.kp T.b_is_name .nil pass0 (pa_cons (pv 2) pa_nil)) (pe_one (pe_cmpR op_notIn_seq (pv 2) (pv 1) (by with_unfolding_all rfl))))) pa_nil)))
      (pss_one (ps_ret (pv 2))))), ?_⟩
  obtain ⟨hle, ⟨dx, ha⟩, hw, hz1, hz2⟩ := id hC
  refine ⟨_, rfl, c.a, dx, _, rfl, ha, c, i, rfl, hC, ?_⟩
  refine ⟨_, rfl, c.a, dx, _, rfl, ha, cg_no cu_meths.1, _, rfl, rfl, _, rfl, ?_⟩
  cases e : c.ws[i]? with
  | none =>
    have eh : hereV c.ws i = .non := by unfold hereV; rw [e]
    rw [eh]
    refine iteF ?_
    refine ⟨c, i, _, rfl, hC, hi, fun hb => Bool.noConfusion hb, fun hb => Bool.noConfusion hb, fun _ => k2 fun x v e' _ => by rw [e] at e'; cases e'⟩
  | some x =>
    have eh : hereV c.ws i = .str x := by unfold hereV; rw [e]
    rw [eh]
    refine iteT ?_
    refine ⟨_, rfl, x, rfl, (hW x (List.mem_of_getElem? e)).2, fun b H1 s1 hb => ⟨_, rfl, ?_⟩⟩
    have bad : (¬ Fit (.fresh ns) x (.str x)) → ∀ d H', Same H1 H' → H1 d = none → H' d = some (.xd [("at", .int (i : Nat))]) → E (.ref T.C_BadText) (some d) H' := fun nf d H' s2 nd hv => k2 (fun x' v e' f' => by
      rw [e] at e'
      cases e'
      exact nf ⟨f'.1, f'.2.1, rfl⟩) d H' (s1.trans s2) (none_back s1 nd) hv
    cases b with
    | false =>
      refine iteF ?_
      exact ⟨c, i, _, rfl, hC.same s1, hi, fun h => Bool.noConfusion h, fun h => Bool.noConfusion h, fun _ => bad fun f => by
        have := hb.mpr f.1
        cases this⟩
    | true =>
      refine iteT ?_
      refine ⟨_, rfl, _, rfl, pn, ns.map V.str, rfl, .inl (SqL.of (s1 _ _ hn)), rfl, strs_flat ns, ?_⟩
      exact ⟨c, i, _, rfl, hC.same s1, hi, fun _ => here_lt e, fun h H' b z => ⟨_, rfl, k1 x (.str x) e ⟨hb.mp rfl, not_in h, rfl⟩ H' ((but_of s1).trans b) z⟩, fun h => bad fun f => by
        have : (!inV (.str x) (ns.map V.str)) = true := by
          rw [inV_strs, decide_eq_false f.2.1]
          rfl
        rw [this] at h
        cases h⟩
/-! ### _openings -/
def sp_openings (T : Txt K mg) : Sp := fun vs H Q _ => ∃ (c : CuI) (i k : Nat), vs = [.ref c.a, .int ((k : Nat) : Int)] ∧ CuX K T.C_Cursor H c i ∧ ∀ (p : Addr) (H' : Hp), Same H H' → H p = none → H' p = some (.lst ((opens c.se (!c.ops.isEmpty) k).map V.str)) → Q (.ref p) H'

theorem ok_openings (T : Txt K mg) : FnOk P w K mg base CX0 1 T.a_openings T.d_openings ["cursor", "room"] (sp_openings T) := by
  refine T.F_openings.ok sc_openings (fun vs H Q E h => ?_) (fun cdv A outer s H vs Q E hr h => ?_)
  · obtain ⟨c, i, k, rfl, _⟩ := h
    rfl
  obtain ⟨c, i, k, rfl, hC, q⟩ := h
  refine ⟨_, (pss_cons (ps_set (i := 2) sc_openings.nd rfl (by first | exact Or.inl rfl | exact Or.inr rfl) (pe_lst pa_nil))
      (C8.pss_cut (ps_if (pt_truth (pe_fld (pv 0) rfl) (fun _ => rfl)) (pss_one (ps_expr (pe_bm PySem.F.plainAttrs_list PySem.F.slot_list_append PySem.F.type_list_append mt_append (pv 2) (pa_cons pe_str pa_nil)))) pss_nil)
      (pss_cons (ps_if (pt_cmpR op_gt (pv 1) pe_int (nomark _)) (pss_cons (ps_expr (pe_bm PySem.F.plainAttrs_list PySem.F.slot_list_extend PySem.F.type_list_extend mt_extendT (pv 2) (pa_cons (pe_glob (v := .ref T.A_OPERATORS) (by rfl) T.g_OPERATORS rfl) pa_nil)))
      (C8.pss_cut (ps_if (pt_truth (pe_fld (pv 0) rfl) (fun _ => rfl)) (pss_one (ps_expr (pe_bm PySem.F.plainAttrs_list PySem.F.slot_list_append PySem.F.type_list_append mt_append (pv 2) (pa_cons pe_str pa_nil)))) pss_nil)
      (pss_one (ps_if (pt_truth (pe_fld (pv 0) rfl) (fun _ => rfl)) (pss_one (ps_expr (pe_bm PySem.F.plainAttrs_list PySem.F.slot_list_append PySem.F.type_list_append mt_append (pv 2) (pa_cons pe_str pa_nil)))) pss_nil)))) pss_nil)
      (pss_one (ps_ret (pv 2)))))), ?_⟩
  refine ⟨by show 0 ≤ sizeLine; decide, fun W fW => ?_⟩
  have sW := same_upd (o := .lst []) fW
  refine ⟨fun σ' H' => σ' = [some (.ref c.a), some (.int ((k : Nat) : Int)), some (.ref W)] ∧ Same H H' ∧ H' W = some (.lst ((if c.se = true then (["long"] : List Str) else []).map V.str)), ?_, ?_⟩
  · obtain ⟨hle, ⟨dx, ha⟩, hw, hz1, hz2⟩ := hC.same sW
    refine ⟨_, rfl, c.a, T.C_Cursor, dx, _, _, rfl, ha, T.cl_Cursor, T.n_Cursor_sees, lk_ix cgNd 3 rfl, _, rfl, ite2 (fun y => ?_) (fun y => ⟨rfl, sW, by rw [if_neg y]; exact upd_same⟩)⟩
    refine ⟨_, rfl, .inl ⟨rfl, _, SqL.of upd_same⟩, W, _, _, rfl, rfl, upd_same, small1000 (by show 0 ≤ 1000; decide), ?_⟩
    exact ⟨rfl, same_at sW fW, by rw [if_pos y]; exact upd_same⟩
  rintro σ1 H1 ⟨rfl, s1, e1⟩
  refine ⟨_, rfl, _, _, rfl, rfl, _, rfl, ite2 (fun y => ?_) (fun y => ?_)⟩
  rotate_left
  · have y' : ¬ (1 : Int) < ((k : Nat) : Int) := fun z => y (decide_eq_true z)
    refine ⟨_, rfl, q W H1 s1 fW ?_⟩
    rw [e1]
    unfold opens
    rw [if_neg (show ¬ 1 < k by omega), List.append_nil]
  · have y' : (1 : Int) < ((k : Nat) : Int) := of_decide_eq_true y
    have l1 : ((if c.se = true then (["long"] : List Str) else []).map V.str).length ≤ 1 := by split <;> decide
    refine ⟨_, rfl, .inl ⟨rfl, _, SqL.of e1⟩, W, T.A_OPERATORS, _, _, rfl, rfl, e1, T.q_OPERATORS _, small_le (by have : (opL.map V.str).length = 7 := rfl; show _ + (opL.map V.str).length ≤ 1000; omega), ?_⟩
    have e2 : upd H1 W (.lst ((if c.se = true then (["long"] : List Str) else []).map V.str ++ opL.map V.str)) W = some (.lst (((if c.se = true then (["long"] : List Str) else []) ++ opL).map V.str)) := by rw [upd_same, List.map_append]
    have s2 : Same H (upd H1 W (.lst ((if c.se = true then (["long"] : List Str) else []).map V.str ++ opL.map V.str))) := same_at s1 fW
    show tSeq _ _ _ _ (upd H1 W (.lst ((if c.se = true then (["long"] : List Str) else []).map V.str ++ opL.map V.str)))
    revert e2 s2
    generalize upd H1 W (.lst ((if c.se = true then (["long"] : List Str) else []).map V.str ++ opL.map V.str)) = H2
    intro e2 s2
    refine ⟨fun σ' H' => σ' = [some (.ref c.a), some (.int ((k : Nat) : Int)), some (.ref W)] ∧ Same H H' ∧ H' W = some (.lst ((((if c.se = true then (["long"] : List Str) else []) ++ opL) ++ (if (!c.ops.isEmpty) = true then (["pick"] : List Str) else [])).map V.str)), ?_, ?_⟩
    · obtain ⟨hle, ⟨dx, ha⟩, hw, hz1, hz2⟩ := hC.same s2
      have em : (!(c.ops.map V.str).isEmpty) = !c.ops.isEmpty := by cases c.ops <;> rfl
      refine ⟨_, rfl, c.a, T.C_Cursor, dx, _, _, rfl, ha, T.cl_Cursor, T.n_Cursor_options, lk_ix cgNd 1 rfl, _, .inr (.inl ⟨_, hz1, em.symm⟩), ite2 (fun y => ?_) (fun y => ⟨rfl, s2, by rw [if_neg y, List.append_nil]; exact e2⟩)⟩
      refine ⟨_, rfl, .inl ⟨rfl, _, SqL.of e2⟩, W, _, _, rfl, rfl, e2, by rw [List.length_map, List.length_append]; rw [List.length_map] at l1; exact small1000 (by have : opL.length = 7 := rfl; omega), ?_⟩
      refine ⟨rfl, same_at s2 fW, ?_⟩
      rw [if_pos y, upd_same, List.map_append (l₁ := (if c.se = true then (["long"] : List Str) else []) ++ opL)]
      rfl
    rintro σ3 H3 ⟨rfl, s3, e3⟩
    obtain ⟨hle, ⟨dx, ha⟩, hw, hz1, hz2⟩ := hC.same s3
    refine ⟨_, rfl, c.a, T.C_Cursor, dx, _, _, rfl, ha, T.cl_Cursor, T.n_Cursor_sees, lk_ix cgNd 3 rfl, _, rfl, ite2 (fun y => ?_) (fun y => ?_)⟩
    · refine ⟨_, rfl, .inl ⟨rfl, _, SqL.of e3⟩, W, _, _, rfl, rfl, e3, ?_, ?_⟩
      · rw [List.length_map, List.length_append, List.length_append]
        rw [List.length_map] at l1
        have : (if (!c.ops.isEmpty) = true then (["pick"] : List Str) else []).length ≤ 1 := by split <;> decide
        exact small1000 (by have : opL.length = 7 := rfl; omega)
      · refine ⟨_, rfl, q W _ (same_at s3 fW) fW ?_⟩
        rw [upd_same]
        unfold opens
        rw [if_pos (show 1 < k by omega)]
        have y2 : c.se = true := y
        rw [if_pos y2, if_pos y2]
        simp [List.map_append]
    · refine ⟨_, rfl, q W _ s3 fW ?_⟩
      rw [e3]
      unfold opens
      rw [if_pos (show 1 < k by omega), if_neg y, if_neg y, List.append_nil, List.nil_append, List.nil_append]
/-! ### _read_parts@x -/
def sp_read_expression_x (T : Txt K mg) (n : Nat) : Sp := fun vs H Q E => ∃ (c : CuI) (i k : Nat), vs = [.ref c.a, .int ((k : Nat) : Int)] ∧ 1 ≤ k ∧ k ≤ n ∧ CuX K T.C_Cursor H c i ∧ Wds c.ws ∧ c.ws.length < 90000 ∧ RdK K T.C_Cursor T.C_BadText H c (readM c k i) Q E
theorem no_read_expression_x (T : Txt K mg) : ∀ vs H Q E, ¬ sp_read_expression_x T 0 vs H Q E := fun vs H Q E ⟨_, _, _, _, h1, h2, _⟩ => by omega

def sp_read_parts_x (T : Txt K mg) (n : Nat) : Sp := fun vs H Q E => ∃ (c : CuI) (i k : Nat) (x : Str), vs = [.ref c.a, .str x, .int ((k : Nat) : Int)] ∧ k ≤ n ∧ (x ≠ "long" → 1 ≤ k) ∧ CuX K T.C_Cursor H c i ∧ Wds c.ws ∧ c.ws.length < 90000 ∧ RdK K T.C_Cursor T.C_BadText H c (partsR c (readM c k) x i) Q E

theorem ok_read_parts_x (T : Txt K mg) {n : Nat} (G : FnOk P w K mg base (L2.CX P w) (5 + 2 * n) T.a_read_expression T.d_read_expression ["cursor", "room"] (sp_read_expression_x T n)) : FnOk P w K mg base (L2.CX P w) (5 + 2 * n + 1) T.a_read_parts T.d_read_parts ["cursor", "word", "room"] (sp_read_parts_x T n) := by
  refine T.F_read_parts.okX sc_read_parts (fun vs H Q E h => ?_) (fun cdv A outer s H vs Q E hr h => ?_)
  · obtain ⟨c, i, k, x, rfl, _⟩ := h
    rfl
  obtain ⟨c, i, k, x, rfl, hk, hx, hC, hW, hl, q⟩ := h
  refine ⟨_, (pss_cons (ps_if (pt_cmpR op_eq (pv 1) pe_str (nomark _)) (pss_one (ps_ret (pe_tup (pa_cons pe_str pa_nil)))) pss_nil)
      (pss_cons (ps_if (pt_cmpR op_eq (pv 1) pe_str (nomark _)) (pss_one (ps_ret (pe_tup (pa_cons pe_str (pa_cons (pe_callNT G (hr.mono (by omega)) (by rfl) T.m_read_expression T.F_read_expression.kp T.kb_read_expression (fun σ => passAt (takes_of rfl rfl rfl rfl) σ) (pa_cons (pv 0) pa_nil) (pk_cons (pv 2) pk_nil)) pa_nil))))) pss_nil)
      (C8.pss_cut (ps_set (i := 3) sc_read_parts.nd rfl (by first | exact Or.inl rfl | exact Or.inr rfl) (pe_ifExp (pt_cmpR op_eq (pv 1) pe_str (nomark _)) (pe_methT (pv 0) T.cl_Cursor T.me_Cursor_take_name (ok_Cursor_take_name_x T) (hr.mono (by omega)) T.b_Cursor_take_name .nil (fun σ => passAt (takes_of rfl rfl rfl rfl) σ) (pa_cons (pe_fld (pv 0) rfl) pa_nil)) pe_non))
      (pss_cons (ps_set (i := 4) sc_read_parts.nd rfl (by first | exact Or.inl rfl | exact Or.inr rfl) (pe_callNT G (hr.mono (by omega)) (by rfl) T.m_read_expression T.F_read_expression.kp T.kb_read_expression (fun σ => passAt (takes_of rfl rfl rfl rfl) σ) (pa_cons (pv 0) pa_nil) (pk_cons (pv 2) pk_nil)))
      (pss_cons (ps_set (i := 5) sc_read_parts.nd rfl (by first | exact Or.inl rfl | exact Or.inr rfl) (pe_callNT G (hr.mono (by omega)) (by rfl) T.m_read_expression T.F_read_expression.kp T.kb_read_expression (fun σ => passAt (takes_of rfl rfl rfl rfl) σ) (pa_cons (pv 0) pa_nil) (pk_cons (pv 2) pk_nil)))
      (pss_one (ps_ret (pe_ifExp (pt_cmpR op_isN (pv 3) pe_non (nomark _)) (pe_tup (pa_cons (pv 1) (pa_cons (pv 4) (pa_cons (pv 5) pa_nil)))) (pe_tup (pa_cons (pv 1) (pa_cons (pv 3) (pa_cons (pv 4) (pa_cons (pv 5) pa_nil))))))))))))), ?_⟩
  obtain ⟨hle, ⟨dx, ha⟩, hw, hz1, hz2⟩ := id hC
  by_cases xl : x = "long"
  · subst xl
    refine ⟨_, rfl, rfl, _, rfl, iteS ⟨by show 1 ≤ sizeLine; decide, fun U fU => ?_⟩⟩
    unfold partsR at q
    rw [if_pos rfl] at q
    exact q _ _ (but_of (same_upd fU)) (.long upd_same) (hC.same (same_upd fU))
  have k1 := hx xl
  refine ⟨_, rfl, rfl, _, rfl, iteN xl ?_⟩
  by_cases xv : x = "view"
  · subst xv
    unfold partsR at q
    rw [if_neg xl, if_pos rfl] at q
    refine ⟨_, rfl, rfl, _, rfl, iteS ?_⟩
    refine ⟨_, rfl, _, rfl, rfl, rfl, c, i, k, rfl, k1, hk, hC, hW, hl, ?_⟩
    unfold oneR at q
    cases e1 : readM c k i with
    | bad j =>
      rw [e1] at q
      exact q
    | ok e j =>
      rw [e1] at q
      refine fun v H1 b1 ev C1 => ⟨by show 2 ≤ sizeLine; decide, fun U fU => ?_⟩
      exact q _ _ (b1.trans (but_of (same_upd fU))) (.view upd_same (ev.keep (keepT_of (same_upd fU)))) (C1.same (same_upd fU))
  refine ⟨_, rfl, rfl, _, rfl, iteN xv ?_⟩
  refine ⟨fun σ' H' => ∃ (op : V) (f : Ex → Ex → Ex) (j : Nat), σ' = [some (.ref c.a), some (.str x), some (.int ((k : Nat) : Int)), some op, none, none] ∧ But c.a H H' ∧ CuX K T.C_Cursor H' c j ∧ RdK K T.C_Cursor T.C_BadText H' c (twoR f (readM c k) j) Q E ∧
    ((op = .non ∧ f = .op x) ∨ ∃ o, op = .str o ∧ f = .pick o ∧ x = "pick"), ?_, ?_⟩
  · unfold partsR at q
    rw [if_neg xl, if_neg xv] at q
    by_cases xp : x = "pick"
    · subst xp
      rw [if_pos rfl] at q
      refine ⟨_, rfl, rfl, _, rfl, iteS ?_⟩
      refine ⟨_, rfl, c.a, dx, _, rfl, ha, cg_no cu_meths.2.2.2.1, _, rfl, c.a, T.C_Cursor, dx, _, _, rfl, ha, T.cl_Cursor, T.n_Cursor_options, lk_ix cgNd 1 rfl, c, c.z1, c.ops, i, rfl, hC, .inr (hz1), by omega, fun o v eo f H1 b1 C1 => ?_, fun no d H1 s1 nd hd => ?_⟩
      · obtain ⟨mo, rfl⟩ := f
        rw [eo] at q
        have q' : RdK K T.C_Cursor T.C_BadText H c (twoR (.pick o) (readM c k) (i + 1)) Q E := by
          have q2 : RdK K T.C_Cursor T.C_BadText H c (if o ∈ c.ops then twoR (.pick o) (readM c k) (i + 1) else .bad i) Q E := q
          rw [if_pos mo] at q2
          exact q2
        exact ⟨_, _, _, rfl, b1, C1, q'.mono b1, .inr ⟨o, rfl, rfl, rfl⟩⟩
      · have q' : RdK K T.C_Cursor T.C_BadText H c (.bad i) Q E := by
          cases eo : c.ws[i]? with
          | none => rw [eo] at q; exact q
          | some o =>
            rw [eo] at q
            have q2 : RdK K T.C_Cursor T.C_BadText H c (if o ∈ c.ops then twoR (.pick o) (readM c k) (i + 1) else .bad i) Q E := q
            rw [if_neg (fun mo => no o (.str o) eo ⟨mo, rfl⟩)] at q2
            exact q2
        exact q' d H1 (but_of s1) hd
    · rw [if_neg xp] at q
      refine ⟨_, rfl, rfl, _, rfl, iteN xp ?_⟩
      exact ⟨_, _, _, rfl, But.refl _ _, hC, q, .inl ⟨rfl, rfl⟩⟩
  rintro σ1 H1 ⟨op, f, j, rfl, b1, C1, q1, hf⟩
  clear q hC ha hw hz1 hz2
  refine ⟨_, rfl, _, rfl, rfl, rfl, c, j, k, rfl, k1, hk, C1, hW, hl, ?_⟩
  unfold twoR at q1
  cases e1 : readM c k j with
  | bad j1 =>
    rw [e1] at q1
    exact q1
  | ok e j1 =>
    rw [e1] at q1
    refine fun v H2 b2 ev C2 => ?_
    refine ⟨_, rfl, _, rfl, rfl, rfl, c, j1, k, rfl, k1, hk, C2, hW, hl, ?_⟩
    cases e2 : readM c k j1 with
    | bad j2 =>
      have q2 : RdK K T.C_Cursor T.C_BadText H1 c (match readM c k j1 with
        | .bad j' => .bad j'
        | .ok b j' => .ok (f e b) j') Q E := q1
      rw [e2] at q2
      exact RdK.mono b2 q2
    | ok e' j2 =>
      have q2 : RdK K T.C_Cursor T.C_BadText H1 c (match readM c k j1 with
        | .bad j' => .bad j'
        | .ok b j' => .ok (f e b) j') Q E := q1
      rw [e2] at q2
      refine fun w H3 b3 ew C3 => ?_
      have ev3 := ev.keep (C2.keepT b3)
      rcases hf with ⟨rfl, rfl⟩ | ⟨o, rfl, rfl, rfl⟩
      · refine ⟨_, rfl, rfl, _, rfl, iteT ⟨_, rfl, _, rfl, _, rfl, by show 3 ≤ sizeLine; decide, fun U fU => ?_⟩⟩
        have sU := same_upd (o := .tup [V.str x, v, w]) fU
        exact q2 _ _ ((b2.trans b3).trans (but_of sU)) (.op upd_same (ev3.keep (keepT_of sU)) (ew.keep (keepT_of sU))) (C3.same sU)
      · refine ⟨_, rfl, rfl, _, rfl, iteF ⟨_, rfl, _, rfl, _, rfl, _, rfl, by show 4 ≤ sizeLine; decide, fun U fU => ?_⟩⟩
        have sU := same_upd (o := .tup [V.str "pick", .str o, v, w]) fU
        exact q2 _ _ ((b2.trans b3).trans (but_of sU)) (.pick upd_same (ev3.keep (keepT_of sU)) (ew.keep (keepT_of sU))) (C3.same sU)
/-! ### read_expression@x -/
theorem step_read_expression_x (T : Txt K mg) {n : Nat} (G : FnOk P w K mg base (L2.CX P w) (5 + 2 * n) T.a_read_expression T.d_read_expression ["cursor", "room"] (sp_read_expression_x T n)) : FnOk P w K mg base (L2.CX P w) (5 + 2 * n + 2) T.a_read_expression T.d_read_expression ["cursor", "room"] (sp_read_expression_x T (n + 1)) := by
  refine T.F_read_expression.ok (CX := L2.CX P w) sc_read_expression (fun vs H Q E h => ?_) (fun cdv A outer s H vs Q E hr h => ?_)
  · obtain ⟨c, i, k, rfl, _⟩ := h
    rfl
  obtain ⟨c, i, k0, rfl, k1, kn, hC, hW, hl, q⟩ := h
  refine ⟨_, (pss_cons (ps_set (i := 2) sc_read_expression.nd rfl (by first | exact Or.inl rfl | exact Or.inr rfl) (pe_prop (pv 0) T.cl_Cursor T.pr_Cursor_word (ok_Cursor_word T) (hr.mono (by omega)) T.b_Cursor_word .nil pass0 rfl))
      (pss_cons (ps_if (pt_cmpR op_in_seq (pv 2) (pe_fld (pv 0) rfl) (by with_unfolding_all rfl)) (pss_one (ps_ret (pe_tup (pa_cons pe_str (pa_cons (pe_methT (pv 0) T.cl_Cursor T.me_Cursor_take_name (ok_Cursor_take_name_x T) (hr.mono (by omega)) T.b_Cursor_take_name .nil (fun σ => passAt (takes_of rfl rfl rfl rfl) σ) (pa_cons (pe_fld (pv 0) rfl) pa_nil)) pa_nil))))) pss_nil)
      (pss_cons (ps_if (pt_cmpR op_in_seq (pv 2) (pe_call (ok_openings T) (hr.mono (by omega)) (by rfl) T.m_openings T.F_openings.kp T.b_openings .nil pass0 (pa_cons (pv 0) (pa_cons (pv 1) pa_nil))) (by with_unfolding_all rfl)) (pss_cons (ps_expr (pe_methT (pv 0) T.cl_Cursor T.me_Cursor_take_word (ok_Cursor_take_word_x T) (hr.mono (by omega)) T.b_Cursor_take_word .nil (fun σ => passAt (takes_of rfl rfl rfl rfl) σ) (pa_cons (pv 2) pa_nil)))
      (pss_one (ps_ret (pe_callSD (ok_read_parts_x T G) (hr.mono (by omega)) (by rfl) T.m_read_parts T.F_read_parts.kp T.b_read_parts .nil (fun σ => passAt (takes_of rfl rfl rfl rfl) σ) (pa_cons (pv 0) (pa_cons (pv 2) (pa_cons (pe_op op_sub (pv 1) pe_int) pa_nil))))))) pss_nil)
      (pss_one (ps_ret (pe_tup (pa_cons pe_str (pa_cons (pe_methT (pv 0) T.cl_Cursor T.me_Cursor_take_number (ok_Cursor_take_number_x T) (hr.mono (by omega)) T.b_Cursor_take_number .nil (fun σ => passAt (takes_of rfl rfl rfl rfl) σ) (pa_cons pe_int (pa_cons (pe_glob (by rfl) T.g_GREATEST_NUMBER T.r_GREATEST_NUMBER) pa_nil))) pa_nil)))))))), ?_⟩
  obtain ⟨k, rfl⟩ : ∃ k, k0 = k + 1 := ⟨k0 - 1, by omega⟩
  obtain ⟨hle, ⟨dx, ha⟩, hw, hz1, hz2⟩ := id hC
  refine ⟨_, rfl, c.a, dx, _, rfl, ha, c, i, rfl, hC, ?_⟩
  refine ⟨_, rfl, _, rfl, c.a, T.C_Cursor, dx, _, _, rfl, ha, T.cl_Cursor, T.n_Cursor_variables, lk_ix cgNd 2 rfl, c.z2, c.vars.map V.str, rfl, .inr hz2, here_flat, strs_flat c.vars, _, rfl, ?_⟩
  cases e : c.ws[i]? with
  | none =>
    have eh : hereV c.ws i = .non := by unfold hereV; rw [e]
    have q' : RdK K T.C_Cursor T.C_BadText H c (.bad i) Q E := by
      unfold readM at q
      rw [e] at q
      exact q
    rw [eh, inV_non]
    refine iteF ?_
    refine ⟨_, rfl, _, rfl, _, rfl, c, i, k + 1, rfl, hC, fun p H1 s1 np e1 => ?_⟩
    refine ⟨p, _, rfl, .inl (SqL.of e1), rfl, strs_flat _, _, rfl, ?_⟩
    rw [inV_non]
    refine iteF ?_
    obtain ⟨hle1, ⟨dx1, ha1⟩, _⟩ := hC.same s1
    refine ⟨_, rfl, c.a, dx1, _, rfl, ha1, cg_no cu_meths.2.2.1, c, i, 0, 65535, rfl, hC.same s1, by omega, hW, fun x v e2 => (by rw [e] at e2; cases e2), fun no d H2 s2 nd hd => ?_⟩
    exact q' d H2 (but_of (s1.trans s2)) hd
  | some x =>
    have eh : hereV c.ws i = .str x := by unfold hereV; rw [e]
    have q0 : RdK K T.C_Cursor T.C_BadText H c (if x ∈ c.vars then .ok (.var x) (i + 1) else if x ∈ opens c.se (!c.ops.isEmpty) (k + 1) then partsR c (readM c k) x (i + 1)
      else match numOf x with
        | some n => .ok (.num n) (i + 1)
        | none => .bad i) Q E := by
      unfold readM at q
      rw [e] at q
      exact q
    rw [eh]
    clear q
    refine ite2 (fun y => ?_) (fun y => ?_)
    · have mx := inv_t y
      rw [if_pos mx] at q0
      have hn : SqL K H c.z2 (c.vars.map V.str) ∨ SqT K H c.z2 (c.vars.map V.str) := .inr hz2
      have ft : Fit (.name c.vars) x (.str x) := ⟨mx, rfl⟩
      refine ⟨_, rfl, c.a, dx, _, rfl, ha, cg_no cu_meths.2.2.2.1, _, rfl, c.a, T.C_Cursor, dx, _, _, rfl, ha, T.cl_Cursor, T.n_Cursor_variables, lk_ix cgNd 2 rfl, c, c.z2, c.vars, i, rfl, hC, hn, by omega, ⟨fun o v eo f H1 b1 C1 => ⟨by show 2 ≤ sizeLine; decide, fun U fU => ?_⟩, fun no => absurd ft (no x (.str x) e)⟩⟩
      rw [e] at eo
      cases eo
      obtain ⟨_, rfl⟩ := f
      exact q0 _ _ (b1.trans (but_of (same_upd fU))) (.var upd_same) (C1.same (same_upd fU))
    · have nx := inv_f y
      rw [if_neg nx] at q0
      refine ⟨_, rfl, _, rfl, _, rfl, c, i, k + 1, rfl, hC, fun p H1 s1 np e1 => ?_⟩
      refine ⟨p, _, rfl, .inl (SqL.of e1), rfl, strs_flat _, _, rfl, ite2 (fun y2 => ?_) (fun y2 => ?_)⟩
      · have mo := inv_t y2
        rw [if_pos mo] at q0
        obtain ⟨hle1, ⟨dx1, ha1⟩, _⟩ := hC.same s1
        refine ⟨_, rfl, c.a, dx1, _, rfl, ha1, cg_no cu_meths.2.1, _, rfl, c, i, x, rfl, hC.same s1, by omega, fun x' v e' f H2 b2 C2 => ?_, fun no => absurd ⟨rfl, rfl⟩ (no x .non e)⟩
        refine ⟨_, rfl, _, rfl, _, rfl, _, _, rfl, rfl, c, i + 1, k, x, ?_, by omega, fun xl => ?_, C2, hW, hl, RdK.mono ((but_of s1).trans b2) q0⟩
        · show [V.ref c.a, V.str x, V.int (((k + 1 : Nat) : Int) - 1)] = [V.ref c.a, V.str x, V.int ((k : Nat) : Int)]
          rw [show ((k + 1 : Nat) : Int) - 1 = ((k : Nat) : Int) by omega]
        · cases k with
          | zero => exact absurd mo (opens_one xl)
          | succ k => omega
      · have no := inv_f y2
        rw [if_neg no] at q0
        obtain ⟨hle1, ⟨dx1, ha1⟩, _⟩ := hC.same s1
        refine ⟨_, rfl, c.a, dx1, _, rfl, ha1, cg_no cu_meths.2.2.1, c, i, 0, 65535, rfl, hC.same s1, by omega, hW, fun x' v e' f H2 b2 C2 => ⟨by show 2 ≤ sizeLine; decide, fun U fU => ?_⟩, fun nf d H2 s2 nd hd => ?_⟩
        · rw [e] at e'
          cases e'
          obtain ⟨n, n1, n2, _, _, rfl⟩ := f
          rw [numOf_some n1 n2] at q0
          exact q0 _ _ ((but_of s1).trans (b2.trans (but_of (same_upd fU)))) (.num upd_same) (C2.same (same_upd fU))
        · have nn : numOf x = none := numOf_none fun n hn en => nf x (.int n) e ⟨n, hn, en, by omega, by omega, rfl⟩
          rw [nn] at q0
          exact q0 d H2 (but_of (s1.trans s2)) hd
theorem ok_read_expression_x (T : Txt K mg) : ∀ n, FnOk P w K mg base (L2.CX P w) (5 + 2 * n) T.a_read_expression T.d_read_expression ["cursor", "room"] (sp_read_expression_x T n)
  | 0 => ⟨fun vs H Q E h => absurd h (no_read_expression_x T vs H Q E), fun A outer s H args us vs Q E _ _ _ _ h => absurd h (no_read_expression_x T vs H Q E)⟩
  | n + 1 => step_read_expression_x T (ok_read_expression_x T n)
/-! ### expression_words -/
def sp_expression_words (T : Txt K mg) (n : Nat) : Sp := fun vs H Q _ => ∃ (v : V) (e : Ex) (ns ps : List Str), vs = [v] ∧ e.deep ≤ n ∧ n ≤ 13 ∧ EvK K H v e ∧ e.Wf ns ps ∧ ∀ (p : Addr) (H' : Hp), Same H H' → H p = none → H' p = some (.lst (e.words.map V.str)) → Q (.ref p) H'
theorem no_expression_words (T : Txt K mg) : ∀ vs H Q E, ¬ sp_expression_words T 0 vs H Q E := fun vs H Q E ⟨_, e, _, _, _, h, _⟩ => absurd (deep_posR e) (by omega)

theorem step_expression_words (T : Txt K mg) {n : Nat} (G : FnOk P w K mg base CX0 (0 + n) T.a_expression_words T.d_expression_words ["expression"] (sp_expression_words T n)) : FnOk P w K mg base CX0 (0 + n + 1) T.a_expression_words T.d_expression_words ["expression"] (sp_expression_words T (n + 1)) := by
  refine T.F_expression_words.ok sc_expression_words (fun vs H Q E h => ?_) (fun cdv A outer s H vs Q E hr h => ?_)
  · obtain ⟨v, e, ns, ps, rfl, _⟩ := h
    rfl
  obtain ⟨v, e, ns, ps, rfl, hd, hn, hv, hw, q⟩ := h
  refine ⟨_, (pss_cons (ps_set (i := 1) sc_expression_words.nd rfl (by first | exact Or.inl rfl | exact Or.inr rfl) (pe_ix ix_tup (pv 0) pe_int (fun _ _ => rfl)))
      (pss_cons (ps_if (pt_cmpR op_eq (pv 1) pe_str (nomark _)) (pss_one (ps_ret (pe_lst (pa_cons (pe_callTy call_str_int (by rfl) T.z_str (by first | exact PySem.boot_str | decide +kernel) (pa_cons (pe_ix ix_tup (pv 0) pe_int (fun _ _ => rfl)) pa_nil)) pa_nil)))) pss_nil)
      (pss_cons (ps_if (pt_cmpR op_eq (pv 1) pe_str (nomark _)) (pss_one (ps_ret (pe_lst (pa_cons (pe_ix ix_tup (pv 0) pe_int (fun _ _ => rfl)) pa_nil)))) pss_nil)
      (pss_cons (ps_set (i := 2) sc_expression_words.nd rfl (by first | exact Or.inl rfl | exact Or.inr rfl) (pe_lst (pa_cons (pv 1) pa_nil)))
      (pss_cons (ps_set (i := 3) sc_expression_words.nd rfl (by first | exact Or.inl rfl | exact Or.inr rfl) (pe_slice sl_tup (pv 0) (po_some pe_int) po_none))
      (C8.pss_cut (ps_if (pt_cmpR op_eq (pv 1) pe_str (nomark _)) (pss_cons (ps_expr (pe_bm PySem.F.plainAttrs_list PySem.F.slot_list_append PySem.F.type_list_append mt_append (pv 2) (pa_cons (pe_ix ix_tup (pv 0) pe_int (fun _ _ => rfl)) pa_nil)))
      (pss_one (ps_set (i := 3) sc_expression_words.nd rfl (by first | exact Or.inl rfl | exact Or.inr rfl) (pe_slice sl_tup (pv 0) (po_some pe_int) po_none)))) pss_nil)
      (pss_cons (ps_for PassesOwn.never rfl (pi_tup (pv 3)) (pg_name (i := 4) sc_expression_words.nd rfl (by first | exact Or.inl rfl | exact Or.inr rfl)) (pss_one (ps_expr (pe_bm PySem.F.plainAttrs_list PySem.F.slot_list_extend PySem.F.type_list_extend mt_extend (pv 2) (pa_cons (pe_call G hr (by rfl) T.m_expression_words T.F_expression_words.kp T.b_expression_words .nil pass0 (pa_cons (pv 4) pa_nil)) pa_nil)))))
      (pss_one (ps_ret (pv 2)))))))))), ?_⟩
  obtain ⟨n1, n2, n3, n4, n5, n6, n7, n8, n9, n10⟩ := num_ne
  have way : (∃ a m, v = .ref a ∧ e = .num m ∧ TpK K H a [.str "number", .int m]) ∨ (∃ a x, v = .ref a ∧ e = .var x ∧ TpK K H a [.str "variable", .str x]) ∨
      ∃ (a : Addr) (kd : Str) (rest : List V) (w0 : List Str) (es : List Ex), v = .ref a ∧ TpK K H a (.str kd :: rest) ∧ kd ≠ "number" ∧ kd ≠ "variable" ∧ e.words = w0 ++ (es.map Ex.words).flatten ∧ (∀ f ∈ es, f.deep ≤ n ∧ f.Wf ns ps) ∧
      ((kd ≠ "pick" ∧ w0 = [kd] ∧ Paired (EvK K H) rest es) ∨ ∃ x r, kd = "pick" ∧ rest = .str x :: r ∧ w0 = [kd, x] ∧ Paired (EvK K H) r es) := by
    cases hv with
    | @num a m ha => exact .inl ⟨a, m, rfl, rfl, ha⟩
    | @var a x ha => exact .inr (.inl ⟨a, x, rfl, rfl, ha⟩)
    | @long a ha => exact .inr (.inr ⟨a, "long", [], ["long"], [], rfl, ha, n2, n5, rfl, (fun f m => by cases m), .inl ⟨n9.symm, rfl, .nil⟩⟩)
    | @view a v e ha hv =>
      have hd' : e.deep + 1 ≤ n + 1 := hd
      exact .inr (.inr ⟨a, "view", [v], ["view"], [e], rfl, ha, n3, n6, by simp [Ex.words], (fun f m => by rw [List.mem_singleton.mp m]; exact ⟨by omega, hw⟩), .inl ⟨n10.symm, rfl, .cons hv .nil⟩⟩)
    | @pick a x v w e f ha hv hv2 =>
      have hd' : max e.deep f.deep + 1 ≤ n + 1 := hd
      refine .inr (.inr ⟨a, "pick", [.str x, v, w], ["pick", x], [e, f], rfl, ha, n4, n7, by simp [Ex.words], fun g m => ?_, .inr ⟨x, [v, w], rfl, rfl, rfl, .cons hv (.cons hv2 .nil)⟩⟩)
      rcases List.mem_cons.mp m with rfl | m
      · exact ⟨by omega, hw.2.1⟩
      · rw [List.mem_singleton.mp m]
        exact ⟨by omega, hw.2.2⟩
    | @op a z v w e f ha hv hv2 =>
      have hd' : max e.deep f.deep + 1 ≤ n + 1 := hd
      obtain ⟨m1, m2, m3, m4, m5⟩ := opL_ne hw.1
      refine .inr (.inr ⟨a, z, [v, w], [z], [e, f], rfl, ha, m1, m2, by simp [Ex.words], fun g m => ?_, .inl ⟨m5, rfl, .cons hv (.cons hv2 .nil)⟩⟩)
      rcases List.mem_cons.mp m with rfl | m
      · exact ⟨by omega, hw.2.1⟩
      · rw [List.mem_singleton.mp m]
        exact ⟨by omega, hw.2.2⟩
  have wl := words_le (Nat.le_trans hd hn)
  rcases way with ⟨a, m, rfl, rfl, ha⟩ | ⟨a, x, rfl, rfl, ha⟩ | ⟨a, kd, rest, w0, es, rfl, ha, k1, k2, ew, hes, way⟩
  · refine ⟨_, rfl, a, _, 0, .str "number", rfl, rfl, ha.sq, atI_nat (j := 0) rfl, ?_⟩
    refine ⟨_, rfl, rfl, _, rfl, iteS ?_⟩
    refine ⟨_, rfl, a, _, 1, .int m, rfl, rfl, ha.sq, atI_nat (j := 1) rfl, m, rfl, ?_, by show 1 ≤ sizeLine; decide, fun p fp => q p _ (same_upd fp) fp upd_same⟩
    obtain ⟨j, rfl⟩ : ∃ j : Nat, m = (j : Int) := ⟨m.toNat, by have := hw.1; omega⟩
    exact log_small (Nat.lt_of_lt_of_le (show j < 65536 by have := hw.2; omega) (by decide +kernel))
  · refine ⟨_, rfl, a, _, 0, .str "variable", rfl, rfl, ha.sq, atI_nat (j := 0) rfl, ?_⟩
    refine ⟨_, rfl, rfl, _, rfl, iteN n1 ?_⟩
    refine ⟨_, rfl, rfl, _, rfl, iteS ?_⟩
    exact ⟨_, rfl, a, _, 1, .str x, rfl, rfl, ha.sq, atI_nat (j := 1) rfl, by show 1 ≤ sizeLine; decide, fun p fp => q p _ (same_upd fp) fp upd_same⟩
  refine ⟨_, rfl, a, _, 0, .str kd, rfl, rfl, ha.sq, atI_nat (j := 0) rfl, ?_⟩
  refine ⟨_, rfl, rfl, _, rfl, iteN k1 ?_⟩
  refine ⟨_, rfl, rfl, _, rfl, iteN k2 ?_⟩
  refine ⟨_, rfl, by show 1 ≤ sizeLine; decide, fun W fW => ?_⟩
  have sW := same_upd (o := .lst [V.str kd]) fW
  have hcut : ¬ (HT.sIx (V.str kd :: rest).length 0 (some 1) = 0 ∧ HT.sIx (V.str kd :: rest).length (V.str kd :: rest).length none = (V.str kd :: rest).length) := fun z => by
    have z1 := z.1
    unfold HT.sIx at z1
    simp at z1
  have ecut : cutV (V.str kd :: rest) (some 1) none = rest := by
    unfold cutV HT.sIx
    simp
  refine ⟨_, rfl, _, rfl, a, _, rfl, (ha.keep (keepT_of sW)).sq, hcut, fun t ft => ?_⟩
  rw [ecut]
  have st := same_upd (o := .tup rest) ft
  refine ⟨fun σ' H' => ∃ (t' : Addr) (xs : List V), σ' = [some (.ref a), some (.str kd), some (.ref W), some (.ref t'), none] ∧ Same H H' ∧ H' W = some (.lst (w0.map V.str)) ∧ H' t' = some (.tup xs) ∧ Paired (EvK K H') xs es, ?_, ?_⟩
  · rcases way with ⟨k3, rfl, hp⟩ | ⟨x, r, rfl, rfl, rfl, hp⟩
    · refine ⟨_, rfl, rfl, _, rfl, iteN k3 ⟨t, rest, rfl, sW.trans st, st _ _ upd_same, upd_same, ?_⟩⟩
      exact L2.Paired.mapP hp fun _ _ y => y.keep (keepT_of (sW.trans st))
    · have sH := sW.trans st
      refine ⟨_, rfl, rfl, _, rfl, iteS ?_⟩
      refine ⟨_, rfl, .inl ⟨rfl, _, SqL.of (st _ _ upd_same)⟩, _, rfl, a, _, 1, .str x, rfl, rfl, (ha.keep (keepT_of sH)).sq, atI_nat (j := 1) rfl, W, _, _, rfl, rfl, st _ _ upd_same, small1000 (by show 1 ≤ 1000; decide), ?_⟩
      have s2 : Same H (upd (upd (upd H W (.lst [V.str "pick"])) t (.tup (V.str x :: r))) W (.lst ([V.str "pick"] ++ [V.str x]))) := same_at sH fW
      have e2 : upd (upd (upd H W (.lst [V.str "pick"])) t (.tup (V.str x :: r))) W (.lst ([V.str "pick"] ++ [V.str x])) W = some (.lst (([("pick" : Str), x] : List Str).map V.str)) := upd_same
      show tSeq _ _ _ _ (upd (upd (upd H W (.lst [V.str "pick"])) t (.tup (V.str x :: r))) W (.lst ([V.str "pick"] ++ [V.str x])))
      revert s2 e2
      generalize upd (upd (upd H W (.lst [V.str "pick"])) t (.tup (V.str x :: r))) W (.lst ([V.str "pick"] ++ [V.str x])) = H2
      intro s2 e2
      have hcut2 : ¬ (HT.sIx (V.str "pick" :: V.str x :: r).length 0 (some 2) = 0 ∧ HT.sIx (V.str "pick" :: V.str x :: r).length (V.str "pick" :: V.str x :: r).length none = (V.str "pick" :: V.str x :: r).length) := fun z => by
        have z1 := z.1
        unfold HT.sIx at z1
        simp at z1
      have ecut2 : cutV (V.str "pick" :: V.str x :: r) (some 2) none = r := by
        unfold cutV HT.sIx
        simp
      refine ⟨_, rfl, _, rfl, a, _, rfl, (ha.keep (keepT_of s2)).sq, hcut2, fun u fu => ?_⟩
      rw [ecut2]
      have su := same_upd (o := .tup r) fu
      refine ⟨u, r, rfl, s2.trans su, su _ _ e2, upd_same, ?_⟩
      exact L2.Paired.mapP hp fun _ _ y => y.keep (keepT_of (s2.trans su))
  clear way hcut ecut sW ft st
  rintro σ1 H1 ⟨t', xs, rfl, s1, e1, et, hp⟩
  refine ⟨_, rfl, t', rfl, ⟨_, SqT.of et⟩, for_tup (K := K) (a := t') (xs := xs) (fun i σ' H' => ∃ (y : Option V), σ' = [some (.ref a), some (.str kd), some (.ref W), some (.ref t'), y] ∧ Same H H' ∧ H' t' = some (.tup xs) ∧ Paired (EvK K H') xs es ∧ H' W = some (.lst ((w0 ++ ((es.take i).map Ex.words).flatten).map V.str))) ⟨_, rfl, s1, et, hp, by rw [List.take_zero]; simpa using e1⟩ ?_ ?_ ?_⟩
  · rintro i σ2 H2 _ ⟨y, rfl, s2, et2, hp2, e2⟩
    exact SqT.of et2
  · rintro i z σ2 H2 hi ⟨y, rfl, s2, et2, hp2, e2⟩
    obtain ⟨f, hf, hz⟩ := pgetC hp2 hi
    have tk : es.take (i + 1) = es.take i ++ [f] := by rw [List.take_add_one, hf]; rfl
    have fl : ((es.take (i + 1)).map Ex.words).flatten = ((es.take i).map Ex.words).flatten ++ f.words := by rw [tk, List.map_append, List.flatten_append]; simp
    have tot : (w0 ++ ((es.take (i + 1)).map Ex.words).flatten).length ≤ 16384 := by
      have h1 : ((es.take (i + 1)).map Ex.words).flatten.length + ((es.drop (i + 1)).map Ex.words).flatten.length = (es.map Ex.words).flatten.length := by
        rw [← List.length_append, ← List.flatten_append, ← List.map_append, List.take_append_drop]
      have h2 : e.words.length = w0.length + (es.map Ex.words).flatten.length := by rw [ew, List.length_append]
      rw [List.length_append]
      omega
    rw [fl, ← List.append_assoc, List.length_append] at tot
    refine ⟨_, rfl, .inl ⟨rfl, _, SqL.of e2⟩, _, rfl, z, f, ns, ps, rfl, (hes f (List.mem_of_getElem? hf)).1, by omega, hz, (hes f (List.mem_of_getElem? hf)).2, fun p H3 s3 np e3 => ?_⟩
    have e23 := s3 _ _ e2
    have nWp : p ≠ W := fun h => by rw [h, e2] at np; cases np
    refine ⟨W, p, _, _, rfl, rfl, e23, e3, ?_, ?_⟩
    · rw [List.length_map, List.length_map, sizeLine_eq]
      omega
    have s4 : Same H (upd H3 W (.lst ((w0 ++ ((es.take i).map Ex.words).flatten).map V.str ++ f.words.map V.str))) := same_at (s2.trans s3) fW
    have kT : KeepT H2 (upd H3 W (.lst ((w0 ++ ((es.take i).map Ex.words).flatten).map V.str ++ f.words.map V.str))) := (keepT_of s3).trans (keepT_lst e23)
    refine ⟨_, rfl, s4, kT _ _ et2, L2.Paired.mapP hp2 fun _ _ y => y.keep kT, ?_⟩
    rw [upd_same, fl, ← List.append_assoc, ← List.map_append]
  · rintro σ2 H2 ⟨y, rfl, s2, et2, hp2, e2⟩
    refine ⟨_, rfl, q W H2 s2 fW ?_⟩
    rw [e2, ew]
    have hl2 : xs.length = es.length := paired_len hp2
    rw [hl2, List.take_length]
theorem ok_expression_words (T : Txt K mg) : ∀ n, FnOk P w K mg base CX0 (0 + n) T.a_expression_words T.d_expression_words ["expression"] (sp_expression_words T n)
  | 0 => ⟨fun vs H Q E h => absurd h (no_expression_words T vs H Q E), fun A outer s H args us vs Q E _ _ _ _ h => absurd h (no_expression_words T vs H Q E)⟩
  | n + 1 => step_expression_words T (ok_expression_words T n)
/-! ### BlockReader._openings -/
def sp_BlockReader_openings (T : Txt K mg) : Sp := fun vs H Q _ => ∃ (c : CuI) (r : Addr) (i lvl : Nat) (st : Nat × Nat), vs = [.ref r, .int (8 - (lvl : Int))] ∧ RdS K T.C_Cursor T.C_BlockReader H c r i st ∧ ∀ (p : Addr) (H' : Hp), Same H H' → H p = none → H' p = some (.lst ((opensB c lvl st).map V.str)) → Q (.ref p) H'

theorem ok_BlockReader_openings (T : Txt K mg) : FnOk P w K mg base CX0 1 T.a_BlockReader_openings T.d_BlockReader_openings ["self", "depth"] (sp_BlockReader_openings T) := by
  refine T.F_BlockReader_openings.ok sc_BlockReader_openings (fun vs H Q E h => ?_) (fun cdv A outer s H vs Q E hr h => ?_)
  · obtain ⟨c, r, i, lvl, st, rfl, _⟩ := h
    rfl
  obtain ⟨c, r, i, lvl, st, rfl, hR, q⟩ := h
  refine ⟨_, (pss_cons (ps_set (i := 2) sc_BlockReader_openings.nd rfl (by first | exact Or.inl rfl | exact Or.inr rfl) (pe_lst (pa_cons pe_str (pa_cons pe_str (pa_cons pe_str pa_nil)))))
      (C8.pss_cut (ps_if (pt_cmpR op_lt (pv 1) (pe_glob (by rfl) T.g_DEEPEST_BLOCK T.r_DEEPEST_BLOCK) (nomark _)) (pss_cons (ps_expr (pe_bm PySem.F.plainAttrs_list PySem.F.slot_list_append PySem.F.type_list_append mt_append (pv 2) (pa_cons pe_str pa_nil)))
      (pss_one (ps_if (pt_truth (pe_fld (pe_fld (pv 0) rfl) rfl) (fun _ => rfl)) (pss_one (ps_expr (pe_bm PySem.F.plainAttrs_list PySem.F.slot_list_append PySem.F.type_list_append mt_append (pv 2) (pa_cons pe_str pa_nil)))) pss_nil))) pss_nil)
      (pss_cons (ps_if (pt_truth (pe_fld (pe_fld (pv 0) rfl) rfl) (fun _ => rfl)) (pss_cons (ps_expr (pe_bm PySem.F.plainAttrs_list PySem.F.slot_list_append PySem.F.type_list_append mt_append (pv 2) (pa_cons pe_str pa_nil)))
      (pss_one (ps_if (pt_cmpR op_lt (pe_op op_add (pe_fld (pv 0) rfl) (pe_fld (pv 0) rfl)) (pe_glob (by rfl) T.g_MOST_CHOICES T.r_MOST_CHOICES) (nomark _)) (pss_one (ps_expr (pe_bm PySem.F.plainAttrs_list PySem.F.slot_list_extend PySem.F.type_list_extend mt_extend (pv 2) (pa_cons (pe_lst (pa_cons pe_str (pa_cons pe_str (pa_cons pe_str pa_nil)))) pa_nil)))) pss_nil))) pss_nil)
      (pss_one (ps_ret (pv 2)))))), ?_⟩
  refine ⟨by show 3 ≤ sizeLine; decide, fun W fW => ?_⟩
  have sW := same_upd (o := .lst ((["show", "pay", "take"] : List Str).map V.str)) fW
  refine ⟨fun σ' H' => σ' = [some (.ref r), some (.int (8 - (lvl : Int))), some (.ref W)] ∧ Same H H' ∧ H' W = some (.lst (((["show", "pay", "take"] : List Str) ++ (if 0 < lvl then ((["if"] : List Str) ++ if (!c.ops.isEmpty) = true then (["when"] : List Str) else []) else [])).map V.str)), ?_, ?_⟩
  · refine ⟨_, rfl, _, _, rfl, rfl, _, rfl, ite2 (fun y => ?_) (fun y => ⟨rfl, sW, ?_⟩)⟩
    rotate_left
    · have y' : ¬ (8 - (lvl : Int)) < (8 : Int) := fun z => y (decide_eq_true z)
      rw [if_neg (show ¬ 0 < lvl by omega), List.append_nil]
      exact upd_same
    have y' : (8 - (lvl : Int)) < (8 : Int) := of_decide_eq_true y
    have lp : 0 < lvl := by omega
    rw [if_pos lp]
    refine ⟨_, rfl, .inl ⟨rfl, _, SqL.of upd_same⟩, W, _, _, rfl, rfl, upd_same, small1000 (by show 3 ≤ 1000; decide), ?_⟩
    rw [upd_upd]
    generalize eH2 : upd H W _ = H2
    have s2 : Same H H2 := eH2 ▸ same_upd fW
    have e2 : H2 W = some (.lst ((["show", "pay", "take", "if"] : List Str).map V.str)) := eH2 ▸ upd_same
    clear eH2
    obtain ⟨⟨hle, ⟨dx, ha⟩, hw, hz1, hz2⟩, ⟨dr, hrd⟩, _⟩ := hR.same s2
    have em : (!(c.ops.map V.str).isEmpty) = !c.ops.isEmpty := by cases c.ops <;> rfl
    refine ⟨_, rfl, r, T.C_BlockReader, dr, _, _, rfl, hrd, T.cl_BlockReader, T.n_BlockReader__cursor, lk_ix rdNd 0 rfl, c.a, T.C_Cursor, dx, _, _, rfl, ha, T.cl_Cursor, T.n_Cursor_options, lk_ix cgNd 1 rfl, _, .inr (.inl ⟨_, hz1, em.symm⟩), ite2 (fun z => ?_) (fun z => ⟨rfl, s2, by rw [if_neg z]; exact e2⟩)⟩
    refine ⟨_, rfl, .inl ⟨rfl, _, SqL.of e2⟩, W, _, _, rfl, rfl, e2, small1000 (by show 4 ≤ 1000; decide), ?_⟩
    exact ⟨rfl, same_at s2 fW, by rw [if_pos z]; exact upd_same⟩
  rintro σ1 H1 ⟨rfl, s1, e1⟩
  have l1 : ((["show", "pay", "take"] : List Str) ++ (if 0 < lvl then ((["if"] : List Str) ++ if (!c.ops.isEmpty) = true then (["when"] : List Str) else []) else [])).length ≤ 5 := by
    split
    · split <;> decide
    · decide
  have fin : ∀ H' xs, Same H H' → H' W = some (.lst ((((["show", "pay", "take"] : List Str) ++ (if 0 < lvl then ((["if"] : List Str) ++ if (!c.ops.isEmpty) = true then (["when"] : List Str) else []) else [])) ++ xs).map V.str)) → xs = (if (!c.vars.isEmpty) = true then ((["set"] : List Str) ++ if st.1 + st.2 < 24 then (["draw", "first", "second"] : List Str) else []) else []) → Q (.ref W) H' := fun H' xs s e g => by
    refine q W H' s fW ?_
    rw [e, g]
    rfl
  revert e1 fin l1
  generalize ((["show", "pay", "take"] : List Str) ++ (if 0 < lvl then ((["if"] : List Str) ++ if (!c.ops.isEmpty) = true then (["when"] : List Str) else []) else [])) = xs0
  intro e1 l1 fin
  obtain ⟨⟨hle, ⟨dx, ha⟩, hw, hz1, hz2⟩, ⟨dr, hrd⟩, _⟩ := hR.same s1
  have em : (!(c.vars.map V.str).isEmpty) = !c.vars.isEmpty := by cases c.vars <;> rfl
  refine ⟨_, rfl, r, T.C_BlockReader, dr, _, _, rfl, hrd, T.cl_BlockReader, T.n_BlockReader__cursor, lk_ix rdNd 0 rfl, c.a, T.C_Cursor, dx, _, _, rfl, ha, T.cl_Cursor, T.n_Cursor_variables, lk_ix cgNd 2 rfl, _, .inr (.inl ⟨_, hz2, em.symm⟩), ite2 (fun z => ?_) (fun z => ⟨_, rfl, fin H1 [] s1 (by rw [List.append_nil]; exact e1) (by rw [if_neg z])⟩)⟩
  refine ⟨_, rfl, .inl ⟨rfl, _, SqL.of e1⟩, W, _, _, rfl, rfl, e1, small1000 (by rw [List.length_map]; omega), ?_⟩
  have s2 := same_at (o := .lst (xs0.map V.str ++ [V.str "set"])) s1 fW
  have e2 : upd H1 W (.lst (xs0.map V.str ++ [V.str "set"])) W = some (.lst ((xs0 ++ (["set"] : List Str)).map V.str)) := by rw [upd_same, List.map_append]; rfl
  show tSeq _ _ _ _ (upd H1 W (.lst (xs0.map V.str ++ [V.str "set"])))
  revert s2 e2
  generalize upd H1 W (.lst (xs0.map V.str ++ [V.str "set"])) = H2
  intro s2 e2
  obtain ⟨_, ⟨dr2, hrd2⟩, _⟩ := hR.same s2
  refine ⟨_, rfl, r, T.C_BlockReader, dr2, _, _, rfl, hrd2, T.cl_BlockReader, T.n_BlockReader__draws, lk_ix rdNd 1 rfl, _, rfl, r, T.C_BlockReader, dr2, _, _, rfl, hrd2, T.cl_BlockReader, T.n_BlockReader__moves, lk_ix rdNd 2 rfl, _, _, rfl, rfl, _, _, rfl, rfl, _, rfl, ite2 (fun y => ?_) (fun y => ?_)⟩
  · have y' : ((st.1 : Nat) : Int) + ((st.2 : Nat) : Int) < (24 : Int) := of_decide_eq_true y
    refine ⟨_, rfl, .inl ⟨rfl, _, SqL.of e2⟩, by show 3 ≤ sizeLine; decide, fun U fU => ?_⟩
    have sU := same_upd (o := .lst ((["draw", "first", "second"] : List Str).map V.str)) fU
    refine ⟨W, U, _, _, rfl, rfl, sU _ _ e2, upd_same, ?_, ?_⟩
    · rw [List.length_map, List.length_append]
      exact small_le (by show _ + 1 + 3 ≤ 1000; omega)
    refine ⟨_, rfl, fin _ ((["set"] : List Str) ++ (["draw", "first", "second"] : List Str)) (same_at (s2.trans sU) fW) ?_ ?_⟩
    · rw [upd_same, ← List.append_assoc, List.map_append (l₁ := xs0 ++ (["set"] : List Str))]
      rfl
    · rw [if_pos z, if_pos (show st.1 + st.2 < 24 by omega)]
  · have y' : ¬ ((st.1 : Nat) : Int) + ((st.2 : Nat) : Int) < (24 : Int) := fun k => y (decide_eq_true k)
    refine ⟨_, rfl, fin H2 (["set"] : List Str) s2 e2 ?_⟩
    rw [if_pos z, if_neg (show ¬ st.1 + st.2 < 24 by omega), List.append_nil]
/-! ### BlockReader._read_choice@x -/
def sp_BlockReader_read_choice_x (T : Txt K mg) : Sp := fun vs H Q E => ∃ (c : CuI) (r : Addr) (i : Nat) (st : Nat × Nat) (x : Str), vs = [.ref r, .str x] ∧ x ∈ (["draw", "first", "second"] : List Str) ∧ RdS K T.C_Cursor T.C_BlockReader H c r i st ∧ Wds c.ws ∧ c.ws.length < 90000 ∧ StK K T.C_Cursor T.C_BlockReader T.C_BadText H c r (choiceM c x i st) Q E

theorem ok_BlockReader_read_choice_x (T : Txt K mg) : FnOk P w K mg base (L2.CX P w) 6 T.a_BlockReader_read_choice T.d_BlockReader_read_choice ["self", "word"] (sp_BlockReader_read_choice_x T) := by
  refine T.F_BlockReader_read_choice.okX sc_BlockReader_read_choice (fun vs H Q E h => ?_) (fun cdv A outer s H vs Q E hr h => ?_)
  · obtain ⟨c, r, i, st, x, rfl, _⟩ := h
    rfl
  obtain ⟨c, r, i, st, x, rfl, mx, hR, hW, hl, q⟩ := h
  refine ⟨_, (pss_cons (ps_set (i := 2) sc_BlockReader_read_choice.nd rfl (by first | exact Or.inl rfl | exact Or.inr rfl) (pe_methT (pe_fld (pv 0) rfl) T.cl_Cursor T.me_Cursor_take_name (ok_Cursor_take_name_x T) (hr.mono (by decide)) T.b_Cursor_take_name .nil (fun σ => passAt (takes_of rfl rfl rfl rfl) σ) (pa_cons (pe_fld (pe_fld (pv 0) rfl) rfl) pa_nil)))
      (pss_cons (ps_if (pt_cmpR op_eq (pv 1) pe_str (nomark _)) (pss_cons (ps_fldaug (pv 0) pe_int in_add)
      (pss_one (ps_ret (pe_tup (pa_cons pe_str (pa_cons (pv 2) (pa_cons (pe_methT (pe_fld (pv 0) rfl) T.cl_Cursor T.me_Cursor_take_number (ok_Cursor_take_number_x T) (hr.mono (by decide)) T.b_Cursor_take_number .nil (fun σ => passAt (takes_of rfl rfl rfl rfl) σ) (pa_cons pe_int (pa_cons (pe_glob (by rfl) T.g_MOST_RESULTS T.r_MOST_RESULTS) pa_nil))) pa_nil))))))) pss_nil)
      (pss_cons (ps_set (i := 3) sc_BlockReader_read_choice.nd rfl (by first | exact Or.inl rfl | exact Or.inr rfl) (pe_fld (pv 0) rfl))
      (pss_cons (ps_fldaug (pv 0) pe_int in_add)
      (pss_one (ps_ret (pe_tup (pa_cons pe_str (pa_cons (pe_mG ty_tu PySem.F.plainAttrs_tuple PySem.F.slot_tuple_index PySem.F.type_tuple_index mt_tup_index (pe_glob (v := .ref T.A_SEATS) (by rfl) T.g_SEATS rfl) (pa_cons (pv 1) pa_nil)) (pa_cons (pv 2) (pa_cons (pe_methT (pe_fld (pv 0) rfl) T.cl_Cursor T.me_Cursor_take_number (ok_Cursor_take_number_x T) (hr.mono (by decide)) T.b_Cursor_take_number .nil (fun σ => passAt (takes_of rfl rfl rfl rfl) σ) (pa_cons pe_int (pa_cons (pe_glob (by rfl) T.g_MOST_MOVES T.r_MOST_MOVES) pa_nil))) (pa_cons (pv 3) pa_nil)))))))))))), ?_⟩
  obtain ⟨⟨hle, ⟨dx, ha⟩, hw, hz1, hz2⟩, ⟨dr, hrd⟩, nar⟩ := id hR
  refine ⟨_, rfl, r, T.C_BlockReader, dr, _, _, rfl, hrd, T.cl_BlockReader, T.n_BlockReader__cursor, lk_ix rdNd 0 rfl, c.a, dx, _, rfl, ha, cg_no cu_meths.2.2.2.1, _, rfl, r, T.C_BlockReader, dr, _, _, rfl, hrd, T.cl_BlockReader, T.n_BlockReader__cursor, lk_ix rdNd 0 rfl, c.a, T.C_Cursor, dx, _, _, rfl, ha, T.cl_Cursor, T.n_Cursor_variables, lk_ix cgNd 2 rfl, c, c.z2, c.vars, i, rfl, hR.cu, .inr hz2, by omega, ⟨fun y v ey f H1 b1 C1 => ?_, fun no d H1 s1 nd hd => ?_⟩⟩
  rotate_left
  · unfold choiceM at q
    rw [nameM_none no] at q
    exact q d H1 (but2_s s1) hd
  obtain ⟨my, rfl⟩ := f
  have R1 := hR.moved b1 C1
  have b21 := but2_l (r := r) b1
  unfold choiceM at q
  rw [nameM_some ey my] at q
  replace q : StK K T.C_Cursor T.C_BlockReader T.C_BadText H c r (if x = "draw" then (match numM c.ws 1 64 (i + 1) with
      | none => .bad (i + 1)
      | some n => .ok (.draw y n) (i + 2) (st.1 + 1, st.2))
    else match numM c.ws 1 8 (i + 1) with
      | none => .bad (i + 1)
      | some n => .ok (.move (seatN x) y n st.2) (i + 2) (st.1, st.2 + 1)) Q E := q
  obtain ⟨⟨hle1, ⟨dx1, ha1⟩, hw1, hz11, hz21⟩, ⟨dr1, hrd1⟩, _⟩ := id R1
  by_cases xd : x = "draw"
  · subst xd
    rw [if_pos rfl] at q
    refine ⟨_, rfl, rfl, _, rfl, iteS ?_⟩
    refine ⟨_, rfl, r, T.C_BlockReader, dr1, _, _, rfl, hrd1, T.cl_BlockReader, T.n_BlockReader__draws, lk_ix rdNd 1 rfl, _, _, rfl, rfl, dr1, _, hrd1, by show 3 < 1000; decide, ?_⟩
    rw [pf_ix rdNd 1 rfl]
    generalize eH2 : upd H1 r _ = H2
    have b2 : But r H1 H2 := eH2 ▸ but_upd
    have hrd2 : H2 r = some (.ins T.C_BlockReader dr1 [("_cursor", .ref c.a), ("_draws", .int ((st.1 + 1 : Nat) : Int)), ("_moves", .int (st.2 : Nat))]) := eH2 ▸ upd_same
    have C2 := CuX.butI C1 hrd1 b2 nar
    have R2 : RdS K T.C_Cursor T.C_BlockReader H2 c r (i + 1) (st.1 + 1, st.2) := ⟨C2, ⟨dr1, hrd2⟩, nar⟩
    clear eH2
    obtain ⟨hle2, ⟨dx2, ha2⟩, _⟩ := id C2
    refine ⟨_, rfl, _, rfl, r, T.C_BlockReader, dr1, _, _, rfl, hrd2, T.cl_BlockReader, T.n_BlockReader__cursor, lk_ix rdNd 0 rfl, c.a, dx2, _, rfl, ha2, cg_no cu_meths.2.2.1, c, i + 1, 1, 64, rfl, C2, by omega, hW, ⟨fun x' v e' f H3 b3 C3 => ?_, fun no d H3 s3 nd hd => ?_⟩⟩
    · obtain ⟨n, n1, n2, n3, n4, rfl⟩ := f
      rw [numM_some e' n1 n2 ⟨by omega, by omega⟩] at q
      refine ⟨by show 3 ≤ sizeLine; decide, fun U fU => ?_⟩
      have sU := same_upd (o := .tup [V.str "draw", .str y, .int (n : Nat)]) fU
      exact q _ _ (((b21.trans (but2_r b2)).trans (but2_l b3)).trans (but2_s sU)) (.draw (.inl upd_same)) ((R2.moved b3 C3).same sU)
    · rw [numM_none no] at q
      exact q d H3 ((b21.trans (but2_r b2)).trans (but2_s s3)) hd
  · rw [if_neg xd] at q
    refine ⟨_, rfl, rfl, _, rfl, iteN xd ?_⟩
    have ms : x ∈ seatL := by
      rcases List.mem_cons.mp mx with z | mx
      · exact absurd z xd
      · exact List.mem_cons_of_mem _ mx
    obtain ⟨g1, g2⟩ := ixS_get ms
    refine ⟨_, rfl, r, T.C_BlockReader, dr1, _, _, rfl, hrd1, T.cl_BlockReader, T.n_BlockReader__moves, lk_ix rdNd 2 rfl, ?_⟩
    refine ⟨_, rfl, r, T.C_BlockReader, dr1, _, _, rfl, hrd1, T.cl_BlockReader, T.n_BlockReader__moves, lk_ix rdNd 2 rfl, _, _, rfl, rfl, dr1, _, hrd1, by show 3 < 1000; decide, ?_⟩
    rw [pf_ix rdNd 2 rfl]
    generalize eH2 : upd H1 r _ = H2
    have b2 : But r H1 H2 := eH2 ▸ but_upd
    have hrd2 : H2 r = some (.ins T.C_BlockReader dr1 [("_cursor", .ref c.a), ("_draws", .int (st.1 : Nat)), ("_moves", .int ((st.2 + 1 : Nat) : Int))]) := eH2 ▸ upd_same
    have C2 := CuX.butI C1 hrd1 b2 nar
    have R2 : RdS K T.C_Cursor T.C_BlockReader H2 c r (i + 1) (st.1, st.2 + 1) := ⟨C2, ⟨dr1, hrd2⟩, nar⟩
    clear eH2
    obtain ⟨hle2, ⟨dx2, ha2⟩, _⟩ := id C2
    refine ⟨⟨_, rfl, .inr T.qd_SEATS⟩, _, rfl, _, seatL, x, ixS seatL x, rfl, rfl, T.q_SEATS _, g1, g2, ?_⟩
    refine ⟨_, rfl, _, rfl, r, T.C_BlockReader, dr1, _, _, rfl, hrd2, T.cl_BlockReader, T.n_BlockReader__cursor, lk_ix rdNd 0 rfl, c.a, dx2, _, rfl, ha2, cg_no cu_meths.2.2.1, c, i + 1, 1, 8, rfl, C2, by omega, hW, ⟨fun x' v e' f H3 b3 C3 => ?_, fun no d H3 s3 nd hd => ?_⟩⟩
    · obtain ⟨n, n1, n2, n3, n4, rfl⟩ := f
      rw [numM_some e' n1 n2 ⟨by omega, by omega⟩] at q
      refine ⟨_, rfl, by show 5 ≤ sizeLine; decide, fun U fU => ?_⟩
      have sU := same_upd (o := .tup [V.str "move", .int (seatN x), .str y, .int (n : Nat), .int (st.2 : Nat)]) fU
      exact q _ _ (((b21.trans (but2_r b2)).trans (but2_l b3)).trans (but2_s sU)) (.move (.inl upd_same)) ((R2.moved b3 C3).same sU)
    · rw [numM_none no] at q
      exact q d H3 ((b21.trans (but2_r b2)).trans (but2_s s3)) hd
/-! ### BlockReader._read_branches@x -/
def sp_BlockReader_read_block_x (T : Txt K mg) (n : Nat) : Sp := fun vs H Q E => ∃ (c : CuI) (r : Addr) (i lvl : Nat) (st : Nat × Nat), vs = [.ref r, .int (8 - (lvl : Int))] ∧ lvl + 1 ≤ n ∧ lvl ≤ 8 ∧ RdS K T.C_Cursor T.C_BlockReader H c r i st ∧ CuOk c ∧ BkK K T.C_Cursor T.C_BlockReader T.C_BadText H c r (blockM c lvl i st) Q E
theorem no_BlockReader_read_block_x (T : Txt K mg) : ∀ vs H Q E, ¬ sp_BlockReader_read_block_x T 0 vs H Q E := fun vs H Q E ⟨_, _, _, _, _, _, h, _⟩ => by omega

/-- how the words ahead of the branches are put together -/
def TestV (K : PySem.W.Frag) (H : Hp) (word : Str) (tv : V) (ns ps : List Str) (mk : List St → List St → St) : Prop := (word = "if" ∧ ∃ e, EvK K H tv e ∧ mk = .ite e) ∨ (word = "when" ∧ ∃ o, tv = .str o ∧ mk = .whn o)
theorem TestV.keep {K : PySem.W.Frag} {H H' : Hp} {word : Str} {tv : V} {ns ps : List Str} {mk : List St → List St → St} (k : KeepT H H') (h : TestV K H word tv ns ps mk) : TestV K H' word tv ns ps mk := by
  rcases h with ⟨a, e, b, d⟩ | h
  · exact .inl ⟨a, e, b.keep k, d⟩
  · exact .inr h
theorem TestV.mk {K : PySem.W.Frag} {H : Hp} {word : Str} {tv : V} {ns ps : List Str} {mk : List St → List St → St} (h : TestV K H word tv ns ps mk) {U p u : Addr} {vs ws : List V} {t f : List St} (hU : H U = some (.tup [.str word, tv, .ref p, .ref u])) (hp : H p = some (.tup vs)) (hv : Bv K H vs t) (hu : H u = some (.tup ws)) (hw : Bv K H ws f) : Sv K H (.ref U) (mk t f) := by
  rcases h with ⟨rfl, e, b, rfl⟩ | ⟨rfl, o, rfl, rfl⟩
  · exact .ite (.inl hU) b (.inl hp) hv (.inl hu) hw
  · exact .whn (.inl hU) (.inl hp) hv (.inl hu) hw
def sp_BlockReader_read_branches_x (T : Txt K mg) (n : Nat) : Sp := fun vs H Q E => ∃ (c : CuI) (r : Addr) (i l : Nat) (st : Nat × Nat) (word : Str) (tv : V) (mk : List St → List St → St), vs = [.ref r, .str word, tv, .int (8 - ((l + 1 : Nat) : Int))] ∧ l + 1 ≤ n ∧ l + 1 ≤ 8 ∧ RdS K T.C_Cursor T.C_BlockReader H c r i st ∧ CuOk c ∧ TestV K H word tv c.vars c.ops mk ∧
  StK K T.C_Cursor T.C_BlockReader T.C_BadText H c r (branchM c (blockM c l) mk i st) Q E

theorem ok_BlockReader_read_branches_x (T : Txt K mg) {n : Nat} (G : FnOk P w K mg base (L2.CX P w) (31 + 3 * n) T.a_BlockReader_read_block T.d_BlockReader_read_block ["self", "depth"] (sp_BlockReader_read_block_x T n)) : FnOk P w K mg base (L2.CX P w) (31 + 3 * n + 1) T.a_BlockReader_read_branches T.d_BlockReader_read_branches ["self", "word", "test", "depth"] (sp_BlockReader_read_branches_x T n) := by
  refine T.F_BlockReader_read_branches.okX sc_BlockReader_read_branches (fun vs H Q E h => ?_) (fun cdv A outer s H vs Q E hr h => ?_)
  · obtain ⟨c, r, i, l, st, word, tv, mk, rfl, _⟩ := h
    rfl
  obtain ⟨c, r, i, l, st, word, tv, mk, rfl, hn, h8, hR, hok, hT, q⟩ := h
  refine ⟨_, (pss_cons (ps_set (i := 4) sc_BlockReader_read_branches.nd rfl (by first | exact Or.inl rfl | exact Or.inr rfl) (pe_fld (pv 0) rfl))
      (pss_cons (ps_set (i := 5) sc_BlockReader_read_branches.nd rfl (by first | exact Or.inl rfl | exact Or.inr rfl) (pe_methT (pv 0) T.cl_BlockReader T.me_BlockReader_read_block G (hr.mono (by omega)) T.b_BlockReader_read_block .nil (fun σ => passAt (takes_of rfl rfl rfl rfl) σ) (pa_cons (pe_op op_add (pv 3) pe_int) pa_nil)))
      (pss_cons (ps_set (i := 6) sc_BlockReader_read_branches.nd rfl (by first | exact Or.inl rfl | exact Or.inr rfl) (pe_tup pa_nil))
      (C8.pss_cut (ps_if (pt_cmpR op_eq (pe_prop (pv 4) T.cl_Cursor T.pr_Cursor_word (ok_Cursor_word T) (hr.mono (by omega)) T.b_Cursor_word .nil pass0 rfl) pe_str (nomark _)) (pss_cons (ps_expr (pe_methT (pv 4) T.cl_Cursor T.me_Cursor_take_word (ok_Cursor_take_word_x T) (hr.mono (by omega)) T.b_Cursor_take_word .nil (fun σ => passAt (takes_of rfl rfl rfl rfl) σ) (pa_cons pe_str pa_nil)))
      (pss_cons (ps_set (i := 6) sc_BlockReader_read_branches.nd rfl (by first | exact Or.inl rfl | exact Or.inr rfl) (pe_methT (pv 0) T.cl_BlockReader T.me_BlockReader_read_block G (hr.mono (by omega)) T.b_BlockReader_read_block .nil (fun σ => passAt (takes_of rfl rfl rfl rfl) σ) (pa_cons (pe_op op_add (pv 3) pe_int) pa_nil)))
      (pss_one (ps_if (pt_cmpR (op_eqD (eq_room hr)) (pv 6) (pe_tup pa_nil) (nomark _)) (pss_one (ps_raise rfl (takes_of rfl rfl rfl rfl) (pmk_oex T.e_BadText.ox T.e_BadText.ini T.e_BadText.ty (ok_BadText_init T) (hr.mono (by omega)) T.b_BadText_init .nil pass0 (by rfl) T.m_BadText (pa_cons (pe_fld (pv 4) rfl) pa_nil)))) pss_nil)))) pss_nil)
      (pss_cons (ps_expr (pe_methT (pv 4) T.cl_Cursor T.me_Cursor_take_word (ok_Cursor_take_word_x T) (hr.mono (by omega)) T.b_Cursor_take_word .nil (fun σ => passAt (takes_of rfl rfl rfl rfl) σ) (pa_cons pe_str pa_nil)))
      (pss_one (ps_ret (pe_tup (pa_cons (pv 1) (pa_cons (pv 2) (pa_cons (pv 5) (pa_cons (pv 6) pa_nil)))))))))))), ?_⟩
  obtain ⟨⟨hle, ⟨dx, ha⟩, hw, hz1, hz2⟩, ⟨dr, hrd⟩, nar⟩ := id hR
  have hl := hok.l
  have lev : (8 - ((l + 1 : Nat) : Int)) + 1 = 8 - (l : Int) := by omega
  refine ⟨_, rfl, r, T.C_BlockReader, dr, _, _, rfl, hrd, T.cl_BlockReader, T.n_BlockReader__cursor, lk_ix rdNd 0 rfl, ?_⟩
  refine ⟨_, rfl, r, dr, _, rfl, hrd, rd_no rd_meths.1, _, rfl, _, _, rfl, rfl, c, r, i, l, st, ?_, hn, by omega, hR, hok, ?_⟩
  · show [V.ref r, V.int ((8 - ((l + 1 : Nat) : Int)) + 1)] = _
    rw [lev]
  unfold branchM at q
  have good := blockM_ok (c := c) l
  cases e1 : blockM c l i st with
  | bad j =>
    rw [e1] at q
    exact q
  | ok t j1 st1 =>
    rw [e1] at q
    obtain ⟨wt, lt, kt⟩ := good _ _ _ _ _ e1
    replace q : StK K T.C_Cursor T.C_BlockReader T.C_BadText H c r (if c.ws[j1]? = some ("else" : Str) then (match blockM c l (j1 + 1) st1 with
      | .bad j' => StR.bad j'
      | .ok f j' st2 => if f = [] then .bad j' else endM c (mk t f) j' st2)
      else endM c (mk t []) j1 st1) Q E := q
    refine fun p1 vs1 H1 b1 e1' bv1 R1 => ?_
    have T1 := hT.keep (hR.keepT b1)
    replace q := StK.mono b1 q
    clear hT ha hw hz1 hz2 hrd hR
    refine ⟨by show 0 ≤ sizeLine; decide, fun u0 fu0 => ?_⟩
    have s0 := same_upd (o := .tup []) fu0
    have R2 := R1.same s0
    have T2 := T1.keep (keepT_of s0)
    have e2' := s0 _ _ e1'
    have bv2 := bv1.keep (keepT_of s0)
    have eu := upd_same (H := H1) (a := u0) (o := .tup [])
    replace q := StK.mono (but2_s s0) q
    revert R2 T2 e2' bv2 eu q
    generalize upd H1 u0 (.tup []) = H2
    intro R2 T2 e2' bv2 eu q
    clear R1 T1 e1' bv1 s0 fu0 b1
    -- the rest of the words
    refine ⟨fun σ' H' => ∃ (u : Addr) (ws : List V) (f : List St) (j : Nat) (st' : Nat × Nat), σ' = [some (.ref r), some (.str word), some tv, some (.int (8 - ((l + 1 : Nat) : Int))), some (.ref c.a), some (.ref p1), some (.ref u)] ∧ RdS K T.C_Cursor T.C_BlockReader H' c r j st' ∧ TestV K H' word tv c.vars c.ops mk ∧ H' p1 = some (.tup vs1) ∧ Bv K H' vs1 t ∧ H' u = some (.tup ws) ∧ Bv K H' ws f ∧
      StK K T.C_Cursor T.C_BlockReader T.C_BadText H' c r (endM c (mk t f) j st') Q E, ?_, ?_⟩
    · obtain ⟨⟨hle2, ⟨dx2, ha2⟩, hw2, hz12, hz22⟩, ⟨dr2, hrd2⟩, _⟩ := id R2
      refine ⟨_, rfl, c.a, dx2, _, rfl, ha2, c, j1, rfl, R2.cu, here_scal, _, rfl, ite2 (fun y => ?_) (fun y => ?_)⟩
      rotate_left
      · have ne : c.ws[j1]? ≠ some ("else" : Str) := fun z => y (by
          have : hereV c.ws j1 = .str "else" := by unfold hereV; rw [z]
          rw [this]
          exact decide_eq_true rfl)
        rw [if_neg ne] at q
        exact ⟨u0, [], [], j1, st1, rfl, R2, T2, e2', bv2, eu, .nil, q⟩
      · have ye : hereV c.ws j1 = .str "else" := of_decide_eq_true y
        have ee : c.ws[j1]? = some ("else" : Str) := by
          unfold hereV at ye
          split at ye
          · rename_i x hx
            rw [hx, V.str.inj ye]
          · cases ye
        rw [if_pos ee] at q
        refine ⟨_, rfl, c.a, dx2, _, rfl, ha2, cg_no cu_meths.2.1, c, j1, "else", rfl, R2.cu, by omega, ⟨fun x' v e' f H3 b3 C3 => ?_, fun no => absurd ⟨rfl, rfl⟩ (no "else" .non ee)⟩⟩
        have R3 := R2.moved b3 C3
        have k3 : KeepT H2 H3 := CuX.keepT R2.cu b3
        replace q := StK.mono (but2_l b3) q
        obtain ⟨_, ⟨dr3, hrd3⟩, _⟩ := id R3
        refine ⟨_, rfl, r, dr3, _, rfl, hrd3, rd_no rd_meths.1, _, rfl, _, _, rfl, rfl, c, r, j1 + 1, l, st1, ?_, hn, by omega, R3, hok, ?_⟩
        · show [V.ref r, V.int ((8 - ((l + 1 : Nat) : Int)) + 1)] = _
          rw [lev]
        cases e3 : blockM c l (j1 + 1) st1 with
        | bad j' =>
          rw [e3] at q
          exact q
        | ok f j2 st2 =>
          rw [e3] at q
          obtain ⟨wf, lf, kf⟩ := good _ _ _ _ _ e3
          replace q : StK K T.C_Cursor T.C_BlockReader T.C_BadText H3 c r (if f = [] then StR.bad j2 else endM c (mk t f) j2 st2) Q E := q
          refine fun p4 vs4 H4 b4 e4 bv4 R4 => ?_
          have k4 := k3.trans (R3.keepT b4)
          replace q := StK.mono b4 q
          refine ⟨_, rfl, by show 0 ≤ sizeLine; decide, fun u5 fu5 => ?_⟩
          have s5 := same_upd (o := .tup []) fu5
          refine ⟨.tuple (datL f), .tuple [], .tup (SqT.of (s5 _ _ e4)) (bv4.keep (keepT_of s5)).dp, .tup (SqT.of upd_same) .nil, block_shaped hok wf lf (by omega), by decide +kernel, _, rfl, ?_⟩
          have R5 := R4.same s5
          replace q := StK.mono (but2_s s5) q
          cases f with
          | nil =>
            rw [if_pos rfl] at q
            have ev : PyData.eqv (.tuple (datL [])) (.tuple []) = true := by decide +kernel
            rw [ev]
            refine iteT ?_
            obtain ⟨⟨hle5, ⟨dx5, ha5⟩, _⟩, _⟩ := id R5
            exact ⟨_, rfl, c.a, T.C_Cursor, dx5, _, _, rfl, ha5, T.cl_Cursor, T.n_Cursor_at, lk_ix cgNd 4 rfl, raise_ok ⟨_, rfl, by omega, by omega⟩ fun d H6 s6 nd hd => q d H6 (but2_s s6) hd⟩
          | cons s0 fr =>
            rw [if_neg (fun z => by cases z)] at q
            have ev : PyData.eqv (.tuple (datL (s0 :: fr))) (.tuple []) = false := by
              rw [eqv_t]
              exact eqv_cn _ _
            rw [ev]
            refine iteF ?_
            have k5 := k4.trans (keepT_of s5)
            exact ⟨p4, vs4, s0 :: fr, j2, st2, rfl, R5, T2.keep k5, k5 _ _ e2', bv2.keep k5, s5 _ _ e4, bv4.keep (keepT_of s5), q⟩
    rintro σ6 H6 ⟨u, ws, f, j, st', rfl, R6, T6, e6, bv6, eu6, bw6, q6⟩
    clear q R2 T2 e2' bv2 eu
    obtain ⟨⟨hle6, ⟨dx6, ha6⟩, _⟩, _, _⟩ := id R6
    unfold endM at q6
    refine ⟨_, rfl, c.a, dx6, _, rfl, ha6, cg_no cu_meths.2.1, c, j, "end", rfl, R6.cu, by omega, ⟨fun x' v e' f' H7 b7 C7 => ?_, fun no d H7 s7 nd hd => ?_⟩⟩
    · obtain ⟨rfl, rfl⟩ := f'
      rw [if_pos e'] at q6
      have k7 : KeepT H6 H7 := CuX.keepT R6.cu b7
      refine ⟨_, rfl, _, rfl, _, rfl, _, rfl, by show 4 ≤ sizeLine; decide, fun U fU => ?_⟩
      have sU := same_upd (o := .tup [V.str word, tv, .ref p1, .ref u]) fU
      have k8 := k7.trans (keepT_of sU)
      exact q6 _ _ ((but2_l b7).trans (but2_s sU)) ((T6.keep k8).mk upd_same (k8 _ _ e6) (bv6.keep k8) (k8 _ _ eu6) (bw6.keep k8)) ((R6.moved b7 C7).same sU)
    · rw [if_neg (fun z => no "end" .non z ⟨rfl, rfl⟩)] at q6
      exact q6 d H7 (but2_s s7) hd
/-! ### BlockReader._read_statement@x -/
def sp_BlockReader_read_statement_x (T : Txt K mg) (n : Nat) : Sp := fun vs H Q E => ∃ (c : CuI) (r : Addr) (i lvl : Nat) (st : Nat × Nat) (x : Str), vs = [.ref r, .int (8 - (lvl : Int))] ∧ lvl ≤ n ∧ lvl ≤ 8 ∧ RdS K T.C_Cursor T.C_BlockReader H c r i st ∧ CuOk c ∧ c.ws[i]? = some x ∧ x ∈ opensB c lvl st ∧ StK K T.C_Cursor T.C_BlockReader T.C_BadText H c r (stmtM c (prevM c lvl) x (i + 1) st) Q E
theorem opens_lv {c : CuI} {lvl : Nat} {st : Nat × Nat} {x : Str} (m : x ∈ opensB c lvl st) (z : x = "if" ∨ x = "when") : ∃ l, lvl = l + 1 := by
  unfold opensB at m
  by_cases q : 0 < lvl
  · exact ⟨lvl - 1, by omega⟩
  · rw [if_neg q, List.append_nil] at m
    have t : ∀ y ∈ ((["show", "pay", "take"] : List Str) ++ ((["set"] : List Str) ++ (["draw", "first", "second"] : List Str))), y ≠ "if" ∧ y ≠ "when" := by decide +kernel
    have mm : x ∈ ((["show", "pay", "take"] : List Str) ++ ((["set"] : List Str) ++ (["draw", "first", "second"] : List Str))) := by
      rcases List.mem_append.mp m with m | m
      · exact List.mem_append_left _ m
      · refine List.mem_append_right _ ?_
        split at m
        · rcases List.mem_append.mp m with m | m
          · exact List.mem_append_left _ m
          · split at m
            · exact List.mem_append_right _ m
            · cases m
        · cases m
    rcases z with z | z
    · exact absurd z (t x mm).1
    · exact absurd z (t x mm).2
theorem loopM_one {f : Nat → Nat × Nat → Option StR} {n i j : Nat} {st st' : Nat × Nat} {s : St} (h : f i st = some (.ok s j st')) : loopM f (n + 1) i st = match loopM f n j st' with
    | .bad j' => .bad j'
    | .ok ss j' st'' => .ok (s :: ss) j' st'' := by
  show (match f i st with
    | none => BkR.ok [] i st
    | some (.bad j) => .bad j
    | some (.ok s j st') => match loopM f n j st' with
      | .bad j' => .bad j'
      | .ok ss j' st'' => .ok (s :: ss) j' st'') = _
  rw [h]

theorem ok_BlockReader_read_statement_x (T : Txt K mg) {n : Nat} (G : FnOk P w K mg base (L2.CX P w) (31 + 3 * n) T.a_BlockReader_read_block T.d_BlockReader_read_block ["self", "depth"] (sp_BlockReader_read_block_x T n)) : FnOk P w K mg base (L2.CX P w) (31 + 3 * n + 2) T.a_BlockReader_read_statement T.d_BlockReader_read_statement ["self", "depth"] (sp_BlockReader_read_statement_x T n) := by
  refine T.F_BlockReader_read_statement.okX sc_BlockReader_read_statement (fun vs H Q E h => ?_) (fun cdv A outer s H vs Q E hr h => ?_)
  · obtain ⟨c, r, i, lvl, st, x, rfl, _⟩ := h
    rfl
  obtain ⟨c, r, i, lvl, st, x, rfl, hn, h8, hR, hok, ex, mx, q⟩ := h
  refine ⟨_, (pss_cons (ps_set (i := 2) sc_BlockReader_read_statement.nd rfl (by first | exact Or.inl rfl | exact Or.inr rfl) (pe_fld (pv 0) rfl))
      (pss_cons (ps_set (i := 3) sc_BlockReader_read_statement.nd rfl (by first | exact Or.inl rfl | exact Or.inr rfl) (pe_prop (pv 2) T.cl_Cursor T.pr_Cursor_word (ok_Cursor_word T) (hr.mono (by omega)) T.b_Cursor_word .nil pass0 rfl))
      (pss_cons (ps_expr (pe_methT (pv 2) T.cl_Cursor T.me_Cursor_take_word (ok_Cursor_take_word_x T) (hr.mono (by omega)) T.b_Cursor_take_word .nil (fun σ => passAt (takes_of rfl rfl rfl rfl) σ) (pa_cons (pv 3) pa_nil)))
      (pss_cons (ps_if (pt_cmpR op_eq (pv 3) pe_str (nomark _)) (pss_one (ps_ret (pe_methT (pv 0) T.cl_BlockReader T.me_BlockReader_read_branches (ok_BlockReader_read_branches_x T G) (hr.mono (by omega)) T.b_BlockReader_read_branches .nil (fun σ => passAt (takes_of rfl rfl rfl rfl) σ) (pa_cons (pv 3) (pa_cons (pe_callSD (ok_read_expression_x T 13) (hr.mono (by omega)) (by rfl) T.m_read_expression T.F_read_expression.kp T.bd_read_expression T.v_read_expression (fun σ => passAt (takes_of rfl rfl rfl rfl) σ) (pa_cons (pv 2) pa_nil)) (pa_cons (pv 1) pa_nil)))))) pss_nil)
      (pss_cons (ps_if (pt_cmpR op_eq (pv 3) pe_str (nomark _)) (pss_one (ps_ret (pe_methT (pv 0) T.cl_BlockReader T.me_BlockReader_read_branches (ok_BlockReader_read_branches_x T G) (hr.mono (by omega)) T.b_BlockReader_read_branches .nil (fun σ => passAt (takes_of rfl rfl rfl rfl) σ) (pa_cons (pv 3) (pa_cons (pe_methT (pv 2) T.cl_Cursor T.me_Cursor_take_name (ok_Cursor_take_name_x T) (hr.mono (by omega)) T.b_Cursor_take_name .nil (fun σ => passAt (takes_of rfl rfl rfl rfl) σ) (pa_cons (pe_fld (pv 2) rfl) pa_nil)) (pa_cons (pv 1) pa_nil)))))) pss_nil)
      (pss_cons (ps_if (pt_cmpR op_eq (pv 3) pe_str (nomark _)) (pss_cons (ps_set (i := 4) sc_BlockReader_read_statement.nd rfl (by first | exact Or.inl rfl | exact Or.inr rfl) (pe_mG ty_tu PySem.F.plainAttrs_tuple PySem.F.slot_tuple_index PySem.F.type_tuple_index mt_tup_index (pe_glob (v := .ref T.A_SEATS) (by rfl) T.g_SEATS rfl) (pa_cons (pe_methT (pv 2) T.cl_Cursor T.me_Cursor_take_name (ok_Cursor_take_name_x T) (hr.mono (by omega)) T.b_Cursor_take_name .nil (fun σ => passAt (takes_of rfl rfl rfl rfl) σ) (pa_cons (pe_glob (v := .ref T.A_SEATS) (by rfl) T.g_SEATS rfl) pa_nil)) pa_nil)))
      (pss_one (ps_ret (pe_tup (pa_cons pe_str (pa_cons (pv 4) (pa_cons (pe_callSD (ok_read_expression_x T 13) (hr.mono (by omega)) (by rfl) T.m_read_expression T.F_read_expression.kp T.bd_read_expression T.v_read_expression (fun σ => passAt (takes_of rfl rfl rfl rfl) σ) (pa_cons (pv 2) pa_nil)) pa_nil))))))) pss_nil)
      (pss_cons (ps_if (pt_cmpR op_eq (pv 3) pe_str (nomark _)) (pss_cons (ps_set (i := 5) sc_BlockReader_read_statement.nd rfl (by first | exact Or.inl rfl | exact Or.inr rfl) (pe_methT (pv 2) T.cl_Cursor T.me_Cursor_take_name (ok_Cursor_take_name_x T) (hr.mono (by omega)) T.b_Cursor_take_name .nil (fun σ => passAt (takes_of rfl rfl rfl rfl) σ) (pa_cons (pe_fld (pv 2) rfl) pa_nil)))
      (pss_one (ps_ret (pe_tup (pa_cons pe_str (pa_cons (pv 5) (pa_cons (pe_callSD (ok_read_expression_x T 13) (hr.mono (by omega)) (by rfl) T.m_read_expression T.F_read_expression.kp T.bd_read_expression T.v_read_expression (fun σ => passAt (takes_of rfl rfl rfl rfl) σ) (pa_cons (pv 2) pa_nil)) pa_nil))))))) pss_nil)
      (pss_cons (ps_if (pt_cmpR op_in_seq (pv 3) (pe_tup (pa_cons pe_str (pa_cons pe_str (pa_cons pe_str pa_nil)))) (by with_unfolding_all rfl)) (pss_one (ps_ret (pe_methT (pv 0) T.cl_BlockReader T.me_BlockReader_read_choice (ok_BlockReader_read_choice_x T) (hr.mono (by omega)) T.b_BlockReader_read_choice .nil (fun σ => passAt (takes_of rfl rfl rfl rfl) σ) (pa_cons (pv 3) pa_nil)))) pss_nil)
      (pss_one (ps_ret (pe_tup (pa_cons (pv 3) (pa_cons (pe_callSD (ok_read_expression_x T 13) (hr.mono (by omega)) (by rfl) T.m_read_expression T.F_read_expression.kp T.bd_read_expression T.v_read_expression (fun σ => passAt (takes_of rfl rfl rfl rfl) σ) (pa_cons (pv 2) pa_nil)) pa_nil))))))))))))), ?_⟩
  obtain ⟨⟨hle, ⟨dx, ha⟩, hw, hz1, hz2⟩, ⟨dr, hrd⟩, nar⟩ := id hR
  have hl := hok.l
  have ft : Fit (.word x) x .non := ⟨rfl, rfl⟩
  refine ⟨_, rfl, r, T.C_BlockReader, dr, _, _, rfl, hrd, T.cl_BlockReader, T.n_BlockReader__cursor, lk_ix rdNd 0 rfl, ?_⟩
  refine ⟨_, rfl, c.a, dx, _, rfl, ha, c, i, rfl, hR.cu, ?_⟩
  rw [here_some' ex]
  refine ⟨_, rfl, c.a, dx, _, rfl, ha, cg_no cu_meths.2.1, _, rfl, c, i, x, rfl, hR.cu, by omega, ⟨fun x' v' e' f H1 b1 C1 => ?_, fun no => absurd ft (no x .non ex)⟩⟩
  have R1 := hR.moved b1 C1
  replace q := StK.mono (but2_l b1) q
  clear hR ha hw hz1 hz2 hrd b1 f e'
  obtain ⟨⟨hle1, ⟨dx1, ha1⟩, hw1, hz1, hz2⟩, ⟨dr1, hrd1⟩, _⟩ := id R1
  unfold stmtM at q
  by_cases x1 : x = "if"
  · subst x1
    obtain ⟨l, rfl⟩ := opens_lv mx (.inl rfl)
    rw [if_pos rfl] at q
    refine ⟨_, rfl, rfl, _, rfl, iteS ?_⟩
    refine ⟨_, rfl, r, dr1, _, rfl, hrd1, rd_no rd_meths.2.2.2.2, _, rfl, _, rfl, c, i + 1, 12, rfl, by decide, by decide, C1, hok.w, hok.l, ?_⟩
    cases e1 : readM c 12 (i + 1) with
    | bad j =>
      rw [e1] at q
      exact fun d H' b hd => q d H' (but2_l b) hd
    | ok e j =>
      rw [e1] at q
      refine fun v H2 b2 ev C2 => ?_
      exact ⟨_, rfl, c, r, j, l, st, "if", v, .ite e, rfl, hn, h8, R1.moved b2 C2, hok, .inl ⟨rfl, e, ev.toK, rfl⟩, StK.mono (but2_l b2) q⟩
  rw [if_neg x1] at q
  refine ⟨_, rfl, rfl, _, rfl, iteN x1 ?_⟩
  by_cases x2 : x = "when"
  · subst x2
    obtain ⟨l, rfl⟩ := opens_lv mx (.inr rfl)
    rw [if_pos rfl] at q
    refine ⟨_, rfl, rfl, _, rfl, iteS ?_⟩
    refine ⟨_, rfl, r, dr1, _, rfl, hrd1, rd_no rd_meths.2.2.2.2, _, rfl, _, rfl, c.a, dx1, _, rfl, ha1, cg_no cu_meths.2.2.2.1, _, rfl, c.a, T.C_Cursor, dx1, _, _, rfl, ha1, T.cl_Cursor, T.n_Cursor_options, lk_ix cgNd 1 rfl, c, c.z1, c.ops, i + 1, rfl, C1, .inr hz1, by omega, ⟨fun o v' eo f H2 b2 C2 => ?_, fun no d H2 s2 nd hd => ?_⟩⟩
    · obtain ⟨mo, rfl⟩ := f
      rw [nameM_some eo mo] at q
      exact ⟨_, rfl, c, r, i + 1 + 1, l, st, "when", .str o, .whn o, rfl, hn, h8, R1.moved b2 C2, hok, .inr ⟨rfl, o, rfl, rfl⟩, StK.mono (but2_l b2) q⟩
    · rw [nameM_none no] at q
      exact q d H2 (but2_s s2) hd
  rw [if_neg x2] at q
  refine ⟨_, rfl, rfl, _, rfl, iteN x2 ?_⟩
  by_cases x3 : x = "show"
  · subst x3
    rw [if_pos rfl] at q
    refine ⟨_, rfl, rfl, _, rfl, iteS ?_⟩
    refine ⟨⟨_, rfl, .inr T.qd_SEATS⟩, _, rfl, c.a, dx1, _, rfl, ha1, cg_no cu_meths.2.2.2.1, c, T.A_SEATS, seatL, i + 1, rfl, C1, .inr (T.q_SEATS _), by omega, ⟨fun o v' eo f H2 b2 C2 => ?_, fun no d H2 s2 nd hd => ?_⟩⟩
    · obtain ⟨mo, rfl⟩ := f
      rw [nameM_some eo mo] at q
      have R2 := R1.moved b2 C2
      replace q : StK K T.C_Cursor T.C_BlockReader T.C_BadText H2 c r (exprM c (.show (seatN o)) (i + 1 + 1) st) Q E := StK.mono (but2_l b2) q
      unfold exprM at q
      obtain ⟨g1, g2⟩ := ixS_get mo
      refine ⟨_, seatL, o, ixS seatL o, rfl, rfl, T.q_SEATS _, g1, g2, ?_⟩
      refine ⟨_, rfl, _, rfl, c, i + 1 + 1, 12, rfl, by decide, by decide, C2, hok.w, hok.l, ?_⟩
      cases e1 : readM c 12 (i + 1 + 1) with
      | bad j =>
        rw [e1] at q
        exact fun d H' b hd => q d H' (but2_l b) hd
      | ok e j =>
        rw [e1] at q
        refine fun v H3 b3 ev C3 => ⟨by show 3 ≤ sizeLine; decide, fun U fU => ?_⟩
        have sU := same_upd (o := .tup [V.str "show", .int (seatN o), v]) fU
        exact q _ _ ((but2_l b3).trans (but2_s sU)) (.show (.inl upd_same) (ev.toK.keep (keepT_of sU))) ((R2.moved b3 C3).same sU)
    · rw [nameM_none no] at q
      exact q d H2 (but2_s s2) hd
  rw [if_neg x3] at q
  refine ⟨_, rfl, rfl, _, rfl, iteN x3 ?_⟩
  by_cases x4 : x = "set"
  · subst x4
    rw [if_pos rfl] at q
    refine ⟨_, rfl, rfl, _, rfl, iteS ?_⟩
    refine ⟨_, rfl, c.a, dx1, _, rfl, ha1, cg_no cu_meths.2.2.2.1, _, rfl, c.a, T.C_Cursor, dx1, _, _, rfl, ha1, T.cl_Cursor, T.n_Cursor_variables, lk_ix cgNd 2 rfl, c, c.z2, c.vars, i + 1, rfl, C1, .inr hz2, by omega, ⟨fun o v' eo f H2 b2 C2 => ?_, fun no d H2 s2 nd hd => ?_⟩⟩
    · obtain ⟨mo, rfl⟩ := f
      rw [nameM_some eo mo] at q
      have R2 := R1.moved b2 C2
      replace q : StK K T.C_Cursor T.C_BlockReader T.C_BadText H2 c r (exprM c (.set o) (i + 1 + 1) st) Q E := StK.mono (but2_l b2) q
      unfold exprM at q
      refine ⟨_, rfl, _, rfl, c, i + 1 + 1, 12, rfl, by decide, by decide, C2, hok.w, hok.l, ?_⟩
      cases e1 : readM c 12 (i + 1 + 1) with
      | bad j =>
        rw [e1] at q
        exact fun d H' b hd => q d H' (but2_l b) hd
      | ok e j =>
        rw [e1] at q
        refine fun v H3 b3 ev C3 => ⟨by show 3 ≤ sizeLine; decide, fun U fU => ?_⟩
        have sU := same_upd (o := .tup [V.str "set", .str o, v]) fU
        exact q _ _ ((but2_l b3).trans (but2_s sU)) (.set (.inl upd_same) (ev.toK.keep (keepT_of sU))) ((R2.moved b3 C3).same sU)
    · rw [nameM_none no] at q
      exact q d H2 (but2_s s2) hd
  rw [if_neg x4] at q
  refine ⟨_, rfl, rfl, _, rfl, iteN x4 ?_⟩
  refine ⟨_, rfl, by show 3 ≤ sizeLine; decide, fun U fU => ?_⟩
  have sU := same_upd (o := .tup ((["draw", "first", "second"] : List Str).map V.str)) fU
  have R2 := R1.same sU
  replace q := StK.mono (but2_s sU) q
  obtain ⟨⟨hle2, ⟨dx2, ha2⟩, _⟩, ⟨dr2, hrd2⟩, _⟩ := id R2
  refine ⟨U, (["draw", "first", "second"] : List Str).map V.str, rfl, .inr (SqT.of upd_same), rfl, strs_flat _, _, rfl, ite2 (fun y => ?_) (fun y => ?_)⟩
  · have m5 := inv_t y
    rw [if_pos m5] at q
    exact ⟨_, rfl, r, dr2, _, rfl, hrd2, rd_no rd_meths.2.2.2.1, _, rfl, c, r, i + 1, st, x, rfl, m5, R2, hok.w, hok.l, q⟩
  · have m5 := inv_f y
    rw [if_neg m5] at q
    unfold exprM at q
    refine ⟨_, rfl, _, rfl, c, i + 1, 12, rfl, by decide, by decide, R2.cu, hok.w, hok.l, ?_⟩
    cases e1 : readM c 12 (i + 1) with
    | bad j =>
      rw [e1] at q
      exact fun d H' b hd => q d H' (but2_l b) hd
    | ok e j =>
      rw [e1] at q
      refine fun v H3 b3 ev C3 => ⟨by show 2 ≤ sizeLine; decide, fun U fU => ?_⟩
      have sU := same_upd (o := .tup [V.str x, v]) fU
      exact q _ _ ((but2_l b3).trans (but2_s sU)) (.pay (.inl upd_same) (ev.toK.keep (keepT_of sU))) ((R2.moved b3 C3).same sU)
/-! ### BlockReader.read_block@x -/
theorem step_BlockReader_read_block_x (T : Txt K mg) {n : Nat} (G : FnOk P w K mg base (L2.CX P w) (31 + 3 * n) T.a_BlockReader_read_block T.d_BlockReader_read_block ["self", "depth"] (sp_BlockReader_read_block_x T n)) : FnOk P w K mg base (L2.CX P w) (31 + 3 * n + 3) T.a_BlockReader_read_block T.d_BlockReader_read_block ["self", "depth"] (sp_BlockReader_read_block_x T (n + 1)) := by
  refine T.F_BlockReader_read_block.okX sc_BlockReader_read_block (fun vs H Q E h => ?_) (fun cdv A outer s H vs Q E hr h => ?_)
  · obtain ⟨c, r, i, lvl, st, rfl, _⟩ := h
    rfl
  obtain ⟨c, r, i, lvl, st, rfl, hn, h8, hR, hok, q⟩ := h
  refine ⟨_, (pss_cons (ps_set (i := 2) sc_BlockReader_read_block.nd rfl (by first | exact Or.inl rfl | exact Or.inr rfl) (pe_lst pa_nil))
      (pss_cons (ps_while (passes_of rfl) (pt_cmpR op_in_seq (pe_prop (pe_fld (pv 0) rfl) T.cl_Cursor T.pr_Cursor_word (ok_Cursor_word T) (hr.mono (by omega)) T.b_Cursor_word .nil pass0 rfl) (pe_meth (pv 0) T.cl_BlockReader T.me_BlockReader_openings (ok_BlockReader_openings T) (hr.mono (by omega)) T.b_BlockReader_openings .nil pass0 (pa_cons (pv 1) pa_nil)) (by with_unfolding_all rfl)) (pss_one (ps_expr (pe_bm PySem.F.plainAttrs_list PySem.F.slot_list_append PySem.F.type_list_append mt_append (pv 2) (pa_cons (pe_methT (pv 0) T.cl_BlockReader T.me_BlockReader_read_statement (ok_BlockReader_read_statement_x T G) (hr.mono (by omega)) T.b_BlockReader_read_statement .nil (fun σ => passAt (takes_of rfl rfl rfl rfl) σ) (pa_cons (pv 1) pa_nil)) pa_nil)))))
      (pss_one (ps_ret (pe_callTy call_tuple_of (by rfl) T.z_tuple (by first | exact PySem.boot_tuple | decide +kernel) (pa_cons (pv 2) pa_nil)))))), ?_⟩
  have hl := hok.l
  rw [blockM_eq] at q
  have hg : 0 < lvl → GoodB c (lvl - 1) (prevM c lvl) ∧ lvl - 1 + 1 ≤ lvl := fun z => by
    obtain ⟨l, rfl⟩ : ∃ l, lvl = l + 1 := ⟨lvl - 1, by omega⟩
    exact ⟨blockM_ok l, Nat.le_refl _⟩
  have hi0 := hR.cu.1
  refine ⟨by show 0 ≤ sizeLine; decide, fun W fW => ?_⟩
  have sW := same_upd (o := .lst []) fW
  have nWa : W ≠ c.a := by
    obtain ⟨_, ⟨dx, ha⟩, _⟩ := hR.cu
    exact (ne_of_none ha fW).symm
  have nWr : W ≠ r := by
    obtain ⟨dr, hrd⟩ := hR.rd
    exact (ne_of_none hrd fW).symm
  have nWl : W ≠ c.wl := (ne_of_none hR.cu.2.2.1 fW).symm
  refine ⟨fun m σ' H' => ∃ (vs : List V) (ss : List St) (j f : Nat) (st' : Nat × Nat), σ' = [some (.ref r), some (.int (8 - (lvl : Int))), some (.ref W)] ∧ m = c.ws.length - j ∧ c.ws.length - j < f ∧ But2 c.a r H H' ∧ RdS K T.C_Cursor T.C_BlockReader H' c r j st' ∧ H' W = some (.lst vs) ∧ Bv K H' vs ss ∧ ss.length ≤ j ∧ preR ss (loopM (headM c lvl (prevM c lvl)) f j st') = loopM (headM c lvl (prevM c lvl)) (c.ws.length + 1) i st, ⟨_, [], [], i, c.ws.length + 1, st, rfl, rfl, by omega, but2_s sW, hR.same sW, upd_same, .nil, Nat.zero_le _, ?_⟩, ?_⟩
  · generalize loopM (headM c lvl (prevM c lvl)) (c.ws.length + 1) i st = z
    cases z <;> rfl
  rintro m σ1 H1 ⟨vs, ss, j, f0, st', rfl, rfl, hf, b1, R1, e1, bv1, lj, eq1⟩
  obtain ⟨f, rfl⟩ : ∃ f, f0 = f + 1 := ⟨f0 - 1, by omega⟩
  obtain ⟨⟨hle, ⟨dx, ha⟩, hw, hz1, hz2⟩, ⟨dr, hrd⟩, _⟩ := id R1
  rw [← eq1] at q
  have q0 : BkK K T.C_Cursor T.C_BlockReader T.C_BadText H c r (preR ss (match headM c lvl (prevM c lvl) j st' with
    | none => .ok [] j st'
    | some (.bad j) => .bad j
    | some (.ok s j st') => match loopM (headM c lvl (prevM c lvl)) f j st' with
      | .bad j' => .bad j'
      | .ok ss j' st'' => .ok (s :: ss) j' st'')) Q E := q
  refine ⟨_, rfl, r, T.C_BlockReader, dr, _, _, rfl, hrd, T.cl_BlockReader, T.n_BlockReader__cursor, lk_ix rdNd 0 rfl, c.a, dx, _, rfl, ha, c, j, rfl, R1.cu, ?_⟩
  refine ⟨_, rfl, r, dr, _, rfl, hrd, rd_no rd_meths.2.1, _, rfl, c, r, j, lvl, st', rfl, R1, fun p H2 s2 np e2 => ?_⟩
  refine ⟨p, _, rfl, .inl (SqL.of e2), here_flat, strs_flat _, _, rfl, ?_⟩
  have R2 := R1.same s2
  have e12 := s2 _ _ e1
  have bv2 := bv1.keep (keepT_of s2)
  have b2 := b1.trans (but2_s s2)
  -- where the loop ends
  have stops : headM c lvl (prevM c lvl) j st' = none → tRet (tCB (fun xs H Q => ∃ p ys, xs = [V.ref p] ∧ (SqL K H p ys ∧ (∀ l, H l = none → Q (V.ref l) (upd H l (.tup ys))) ∨ SqT K H p ys ∧ Q (V.ref p) H)) (tCons (tVar 2) tNil)) { nx := fun _ H' => Q .non H', rt := Q } [some (.ref r), some (.int (8 - (lvl : Int))), some (.ref W)] H2 := fun hh => by
    rw [hh] at q0
    refine ⟨_, rfl, W, vs, rfl, .inl ⟨SqL.of e12, fun t ft => ?_⟩⟩
    have st := same_upd (o := .tup vs) ft
    have q1 : BkK K T.C_Cursor T.C_BlockReader T.C_BadText H c r (.ok (ss ++ []) j st') Q E := q0
    rw [List.append_nil] at q1
    exact q1 t vs _ (b2.trans (but2_s st)) upd_same (bv2.keep (keepT_of st)) (R2.same st)
  cases ex : c.ws[j]? with
  | none =>
    have eh : hereV c.ws j = .non := by unfold hereV; rw [ex]
    rw [eh, inV_non]
    refine iteF ?_
    exact stops (by unfold headM; rw [ex])
  | some x =>
    rw [here_some' ex]
    have hh : headM c lvl (prevM c lvl) j st' = if x ∈ opensB c lvl st' then some (stmtM c (prevM c lvl) x (j + 1) st') else none := by
      unfold headM
      rw [ex]
    refine ite2 (fun y => ?_) (fun y => ?_)
    rotate_left
    · exact stops (by rw [hh, if_neg (inv_f y)])
    have mx := inv_t y
    rw [if_pos mx] at hh
    rw [hh] at q0
    clear stops
    have jl := here_lt ex
    refine ⟨fun σ' H' => ∃ m', m' < c.ws.length - j ∧ ∃ (vs : List V) (ss : List St) (j f : Nat) (st' : Nat × Nat), σ' = [some (.ref r), some (.int (8 - (lvl : Int))), some (.ref W)] ∧ m' = c.ws.length - j ∧ c.ws.length - j < f ∧ But2 c.a r H H' ∧ RdS K T.C_Cursor T.C_BlockReader H' c r j st' ∧ H' W = some (.lst vs) ∧ Bv K H' vs ss ∧ ss.length ≤ j ∧ preR ss (loopM (headM c lvl (prevM c lvl)) f j st') = loopM (headM c lvl (prevM c lvl)) (c.ws.length + 1) i st, fun _ _ h => h, ?_⟩
    obtain ⟨⟨hle2, ⟨dx2, ha2⟩, hw2, _⟩, ⟨dr2, hrd2⟩, _⟩ := id R2
    refine ⟨_, rfl, .inl ⟨rfl, _, SqL.of e12⟩, _, rfl, r, dr2, _, rfl, hrd2, rd_no rd_meths.2.2.1, _, rfl, c, r, j, lvl, st', x, rfl, by omega, h8, R2, hok, ex, mx, ?_⟩
    cases es : stmtM c (prevM c lvl) x (j + 1) st' with
    | bad j' =>
      rw [es] at q0
      exact fun d H3 b3 hd => q0 d H3 (b2.trans b3) hd
    | ok s1 j2 st2 =>
      obtain ⟨w1, l1, k1⟩ := stmtM_ok hg mx es
      rw [es] at q0
      refine fun v H3 b3 sv R3 => ?_
      have eW3 := b3 _ _ nWa nWr e12
      have lv : vs.length = ss.length := Bv.len bv1
      refine ⟨W, _, _, rfl, rfl, eW3, ?_, ?_⟩
      · rw [lv, sizeLine_eq]
        have := R2.cu.1
        omega
      have kT : KeepT H2 (upd H3 W (.lst (vs ++ [v]))) := (R2.keepT b3).trans (keepT_lst eW3)
      obtain ⟨⟨hle3, ⟨dx3, ha3⟩, hw3, hz13, hz23⟩, ⟨dr3, hrd3⟩, nar⟩ := id R3
      refine ⟨_, ?_, vs ++ [v], ss ++ [s1], j2, f, st2, rfl, rfl, ?_, ?_, ⟨CuX.butL R3.cu eW3 but_upd nWl.symm, ⟨dr3, by rw [upd_ne nWr.symm]; exact hrd3⟩, nar⟩, upd_same, ?_, ?_, ?_⟩
      · have := R3.cu.1
        omega
      · have := R3.cu.1
        omega
      · intro b o n1 n2 e
        have e3 := b3 _ _ n1 n2 (b2 _ _ n1 n2 e)
        rw [upd_ne (ne_of_none e fW)]
        exact e3
      · exact Bv.app (bv2.keep kT) (.one (sv.keep (keepT_lst eW3)))
      · rw [List.length_append]
        show ss.length + 1 ≤ j2
        omega
      · rw [← eq1]
        rw [loopM_one (f := headM c lvl (prevM c lvl)) (n := f) (hh.trans (by rw [es]))]
        cases loopM (headM c lvl (prevM c lvl)) f j2 st2 with
        | bad => rfl
        | ok ts j3 st3 =>
          show BkR.ok (ss ++ [s1] ++ ts) j3 st3 = BkR.ok (ss ++ (s1 :: ts)) j3 st3
          rw [List.append_assoc]
          rfl
theorem ok_BlockReader_read_block_x (T : Txt K mg) : ∀ n, FnOk P w K mg base (L2.CX P w) (31 + 3 * n) T.a_BlockReader_read_block T.d_BlockReader_read_block ["self", "depth"] (sp_BlockReader_read_block_x T n)
  | 0 => ⟨fun vs H Q E h => absurd h (no_BlockReader_read_block_x T vs H Q E), fun A outer s H args us vs Q E _ _ _ _ h => absurd h (no_BlockReader_read_block_x T vs H Q E)⟩
  | n + 1 => step_BlockReader_read_block_x T (ok_BlockReader_read_block_x T n)
/-! ### _branch_words -/
def sp_block_words (T : Txt K mg) (n : Nat) : Sp := fun vs H Q _ => ∃ (b : Addr) (ws : List V) (ss : List St) (ns ps : List Str), vs = [.ref b] ∧ TpK K H b ws ∧ Bv K H ws ss ∧ lvL ss + 1 ≤ n ∧ n ≤ 10 ∧ NmOk ns ps ∧ WfL ns ps ss ∧ NbL ss ∧ (blockW ss).length ≤ 1000000 ∧
  ∀ (p : Addr) (H' : Hp), Same H H' → H p = none → H' p = some (.lst ((blockW ss).map V.str)) → Q (.ref p) H'
theorem no_block_words (T : Txt K mg) : ∀ vs H Q E, ¬ sp_block_words T 0 vs H Q E := fun vs H Q E ⟨_, _, _, _, _, _, _, _, h, _⟩ => by omega

def sp_branch_words (T : Txt K mg) (n : Nat) : Sp := fun vs H Q _ => ∃ (a p u : Addr) (xs ws zs : List V) (t f : List St) (ns ps : List Str), vs = [.ref a] ∧ TpK K H a xs ∧ xs[2]? = some (.ref p) ∧ xs[3]? = some (.ref u) ∧ TpK K H p ws ∧ Bv K H ws t ∧ TpK K H u zs ∧ Bv K H zs f ∧ lvL t + 1 ≤ n ∧ lvL f + 1 ≤ n ∧ n ≤ 9 ∧ NmOk ns ps ∧ WfL ns ps t ∧ WfL ns ps f ∧ NbL t ∧ NbL f ∧ (branchW t f).length ≤ 1000000 ∧
  ∀ (q : Addr) (H' : Hp), Same H H' → H q = none → H' q = some (.lst ((branchW t f).map V.str)) → Q (.ref q) H'

theorem ok_branch_words (T : Txt K mg) {n : Nat} (G : FnOk P w K mg base CX0 (13 + 3 * n) T.a_block_words T.d_block_words ["block"] (sp_block_words T n)) : FnOk P w K mg base CX0 (13 + 3 * n + 1) T.a_branch_words T.d_branch_words ["statement"] (sp_branch_words T n) := by
  refine T.F_branch_words.ok sc_branch_words (fun vs H Q E h => ?_) (fun cdv A outer s H vs Q E hr h => ?_)
  · obtain ⟨a, p, u, xs, ws, zs, t, f, ns, ps, rfl, _⟩ := h
    rfl
  obtain ⟨a, p, u, xs, ws, zs, t, f, ns, ps, rfl, ha, x2, x3, hp, hw, hu, hz, lt, lf, n9, ok, wt, wf, bt, bf, hl, q⟩ := h
  refine ⟨_, (pss_cons (ps_set (i := 1) sc_branch_words.nd rfl (by first | exact Or.inl rfl | exact Or.inr rfl) (pe_call G (hr.mono (by omega)) (by rfl) T.m_block_words T.F_block_words.kp T.b_block_words .nil pass0 (pa_cons (pe_ix ix_tup (pv 0) pe_int (fun _ _ => rfl)) pa_nil)))
      (C8.pss_cut (ps_if (pt_cmpR (op_neD (eq_room hr)) (pe_ix ix_tup (pv 0) pe_int (fun _ _ => rfl)) (pe_tup pa_nil) (nomark _)) (pss_cons (ps_expr (pe_bm PySem.F.plainAttrs_list PySem.F.slot_list_append PySem.F.type_list_append mt_append (pv 1) (pa_cons pe_str pa_nil)))
      (pss_one (ps_expr (pe_bm PySem.F.plainAttrs_list PySem.F.slot_list_extend PySem.F.type_list_extend mt_extend (pv 1) (pa_cons (pe_call G (hr.mono (by omega)) (by rfl) T.m_block_words T.F_block_words.kp T.b_block_words .nil pass0 (pa_cons (pe_ix ix_tup (pv 0) pe_int (fun _ _ => rfl)) pa_nil)) pa_nil))))) pss_nil)
      (pss_cons (ps_expr (pe_bm PySem.F.plainAttrs_list PySem.F.slot_list_append PySem.F.type_list_append mt_append (pv 1) (pa_cons pe_str pa_nil)))
      (pss_one (ps_ret (pv 1)))))), ?_⟩
  have lb : (branchW t f).length = (blockW t).length + ((if f = [] then [] else (("else" : Str) :: blockW f)).length + 1) := by
    unfold branchW
    rw [List.length_append, List.length_append]
    rfl
  refine ⟨_, rfl, a, xs, 2, .ref p, rfl, rfl, ha.sq, at_of (j := 2) rfl x2, p, ws, t, ns, ps, rfl, hp, hw, lt, by omega, ok, wt, bt, by omega, fun W H1 s1 nW e1 => ?_⟩
  refine ⟨fun σ' H' => σ' = [some (.ref a), some (.ref W)] ∧ Same H H' ∧ H' W = some (.lst ((blockW t ++ (if f = [] then [] else (("else" : Str) :: blockW f))).map V.str)), ?_, ?_⟩
  · refine ⟨_, rfl, a, xs, 3, .ref u, rfl, rfl, (ha.keep (keepT_of s1)).sq, at_of (j := 3) rfl x3, by show 0 ≤ sizeLine; decide, fun v fv => ?_⟩
    have sv := same_upd (o := .tup []) fv
    have s2 := s1.trans sv
    refine ⟨.tuple (datL f), .tuple [], .tup (hu.keep (keepT_of s2)).sq (hz.keep (keepT_of s2)).dp, .tup (SqT.of upd_same) .nil, shaped_of ok wf (by omega), by decide +kernel, _, rfl, ?_⟩
    have e2 := sv _ _ e1
    cases f with
    | nil =>
      have ev : (!PyData.eqv (.tuple (datL [])) (.tuple [])) = false := by decide +kernel
      rw [ev]
      refine iteF ⟨rfl, s2, ?_⟩
      rw [if_pos rfl, List.append_nil]
      exact e2
    | cons s0 fr =>
      have ev : (!PyData.eqv (.tuple (datL (s0 :: fr))) (.tuple [])) = true := by
        rw [eqv_t]
        show (!PyData.eqvAll (s0.dat :: datL fr) []) = true
        rw [eqv_cn]
        rfl
      rw [ev]
      have n0 : ¬ (s0 :: fr = []) := fun z => by cases z
      rw [if_neg n0] at lb ⊢
      have lb2 : (("else" : Str) :: blockW (s0 :: fr)).length = (blockW (s0 :: fr)).length + 1 := rfl
      refine iteT ?_
      refine ⟨_, rfl, .inl ⟨rfl, _, SqL.of e2⟩, W, _, _, rfl, rfl, e2, by rw [List.length_map, sizeLine_eq]; omega, ?_⟩
      generalize eH3 : upd _ W _ = H3
      have s3 : Same H H3 := eH3 ▸ same_at s2 nW
      have e3 : H3 W = some (.lst ((blockW t ++ (["else"] : List Str)).map V.str)) := by
        rw [← eH3, upd_same, List.map_append]
        rfl
      clear eH3
      refine ⟨_, rfl, .inl ⟨rfl, _, SqL.of e3⟩, _, rfl, a, xs, 3, .ref u, rfl, rfl, (ha.keep (keepT_of s3)).sq, at_of (j := 3) rfl x3, u, zs, s0 :: fr, ns, ps, rfl, hu.keep (keepT_of s3), hz.keep (keepT_of s3), lf, by omega, ok, wf, bf, by omega, fun Y H4 s4 nY e4 => ?_⟩
      refine ⟨W, Y, _, _, rfl, rfl, s4 _ _ e3, e4, ?_, ?_⟩
      · rw [List.length_map, List.length_map, List.length_append, sizeLine_eq]
        show _ + 1 + _ ≤ _
        omega
      · refine ⟨rfl, same_at (s3.trans s4) nW, ?_⟩
        rw [upd_same, ← List.map_append, List.append_assoc]
        rfl
  rintro σ5 H5 ⟨rfl, s5, e5⟩
  refine ⟨_, rfl, .inl ⟨rfl, _, SqL.of e5⟩, W, _, _, rfl, rfl, e5, by rw [List.length_map, List.length_append, sizeLine_eq]; omega, ?_⟩
  refine ⟨_, rfl, q W _ (same_at s5 nW) nW ?_⟩
  rw [upd_same]
  unfold branchW
  rw [← List.append_assoc, List.map_append (l₁ := blockW t ++ _)]
  rfl
/-! ### _statement_words -/
def sp_statement_words (T : Txt K mg) (n : Nat) : Sp := fun vs H Q _ => ∃ (v : V) (s : St) (ns ps : List Str), vs = [v] ∧ Sv K H v s ∧ s.lv ≤ n ∧ n ≤ 9 ∧ NmOk ns ps ∧ s.Wf ns ps ∧ s.Nb ∧ s.words.length ≤ 1000000 ∧
  ∀ (p : Addr) (H' : Hp), Same H H' → H p = none → H' p = some (.lst (s.words.map V.str)) → Q (.ref p) H'

theorem ok_statement_words (T : Txt K mg) {n : Nat} (G : FnOk P w K mg base CX0 (13 + 3 * n) T.a_block_words T.d_block_words ["block"] (sp_block_words T n)) : FnOk P w K mg base CX0 (13 + 3 * n + 2) T.a_statement_words T.d_statement_words ["statement"] (sp_statement_words T n) := by
  refine T.F_statement_words.ok sc_statement_words (fun vs H Q E h => ?_) (fun cdv A outer s H vs Q E hr h => ?_)
  · obtain ⟨v, s, ns, ps, rfl, _⟩ := h
    rfl
  obtain ⟨v, s, ns, ps, rfl, hv, hn, n9, ok, hw, hb, hl, q⟩ := h
  refine ⟨_, (pss_cons (ps_set (i := 1) sc_statement_words.nd rfl (by first | exact Or.inl rfl | exact Or.inr rfl) (pe_ix ix_tup (pv 0) pe_int (fun _ _ => rfl)))
      (pss_cons (ps_if (pt_cmpR op_eq (pv 1) pe_str (nomark _)) (pss_one (ps_ret (pe_lst (pa_cons pe_str (StX.pa_star (pe_call (ok_expression_words T 13) (hr.mono (by omega)) (by rfl) T.m_expression_words T.F_expression_words.kp T.b_expression_words .nil pass0 (pa_cons (pe_ix ix_tup (pv 0) pe_int (fun _ _ => rfl)) pa_nil)) (StX.pa_star (pe_call (ok_branch_words T G) (hr.mono (by omega)) (by rfl) T.m_branch_words T.F_branch_words.kp T.b_branch_words .nil pass0 (pa_cons (pv 0) pa_nil)) pa_nil)))))) pss_nil)
      (pss_cons (ps_if (pt_cmpR op_eq (pv 1) pe_str (nomark _)) (pss_one (ps_ret (pe_lst (pa_cons pe_str (pa_cons (pe_ix ix_tup (pv 0) pe_int (fun _ _ => rfl)) (StX.pa_star (pe_call (ok_branch_words T G) (hr.mono (by omega)) (by rfl) T.m_branch_words T.F_branch_words.kp T.b_branch_words .nil pass0 (pa_cons (pv 0) pa_nil)) pa_nil)))))) pss_nil)
      (pss_cons (ps_if (pt_cmpR op_eq (pv 1) pe_str (nomark _)) (pss_one (ps_ret (pe_lst (pa_cons pe_str (pa_cons (pe_ix ix_tup (pe_glob (v := .ref T.A_SEATS) (by rfl) T.g_SEATS rfl) (pe_ix ix_tup (pv 0) pe_int (fun _ _ => rfl)) (fun _ _ => rfl)) (StX.pa_star (pe_call (ok_expression_words T 13) (hr.mono (by omega)) (by rfl) T.m_expression_words T.F_expression_words.kp T.b_expression_words .nil pass0 (pa_cons (pe_ix ix_tup (pv 0) pe_int (fun _ _ => rfl)) pa_nil)) pa_nil)))))) pss_nil)
      (pss_cons (ps_if (pt_cmpR op_in_seq (pv 1) (pe_tup (pa_cons pe_str (pa_cons pe_str pa_nil))) (by with_unfolding_all rfl)) (pss_one (ps_ret (pe_lst (pa_cons (pv 1) (pa_cons (pe_ix ix_tup (pv 0) pe_int (fun _ _ => rfl)) (StX.pa_star (pe_call (ok_expression_words T 13) (hr.mono (by omega)) (by rfl) T.m_expression_words T.F_expression_words.kp T.b_expression_words .nil pass0 (pa_cons (pe_ix ix_tup (pv 0) pe_int (fun _ _ => rfl)) pa_nil)) pa_nil)))))) pss_nil)
      (pss_cons (ps_if (pt_cmpR op_eq (pv 1) pe_str (nomark _)) (pss_one (ps_ret (pe_lst (pa_cons pe_str (StX.pa_star (pe_call (ok_expression_words T 13) (hr.mono (by omega)) (by rfl) T.m_expression_words T.F_expression_words.kp T.b_expression_words .nil pass0 (pa_cons (pe_ix ix_tup (pv 0) pe_int (fun _ _ => rfl)) pa_nil)) (StX.pa_star (pe_call G (hr.mono (by omega)) (by rfl) T.m_block_words T.F_block_words.kp T.b_block_words .nil pass0 (pa_cons (pe_ix ix_tup (pv 0) pe_int (fun _ _ => rfl)) pa_nil)) (pa_cons pe_str pa_nil))))))) pss_nil)
      (pss_cons (ps_if (pt_cmpR op_eq (pv 1) pe_str (nomark _)) (pss_one (ps_ret (pe_lst (pa_cons pe_str (pa_cons (pe_ix ix_tup (pv 0) pe_int (fun _ _ => rfl)) (pa_cons (pe_callTy call_str_int (by rfl) T.z_str (by first | exact PySem.boot_str | decide +kernel) (pa_cons (pe_ix ix_tup (pv 0) pe_int (fun _ _ => rfl)) pa_nil)) pa_nil)))))) pss_nil)
      (pss_cons (ps_if (pt_cmpR op_eq (pv 1) pe_str (nomark _)) (pss_one (ps_ret (pe_lst (pa_cons (pe_ix ix_tup (pe_glob (v := .ref T.A_SEATS) (by rfl) T.g_SEATS rfl) (pe_ix ix_tup (pv 0) pe_int (fun _ _ => rfl)) (fun _ _ => rfl)) (pa_cons (pe_ix ix_tup (pv 0) pe_int (fun _ _ => rfl)) (pa_cons (pe_callTy call_str_int (by rfl) T.z_str (by first | exact PySem.boot_str | decide +kernel) (pa_cons (pe_ix ix_tup (pv 0) pe_int (fun _ _ => rfl)) pa_nil)) pa_nil)))))) pss_nil)
      (pss_one (ps_ret (pe_lst (pa_cons (pv 1) (StX.pa_star (pe_call (ok_expression_words T 13) (hr.mono (by omega)) (by rfl) T.m_expression_words T.F_expression_words.kp T.b_expression_words .nil pass0 (pa_cons (pe_ix ix_tup (pv 0) pe_int (fun _ _ => rfl)) pa_nil)) pa_nil))))))))))))), ?_⟩
  have big : ∀ {k : Nat}, k ≤ 1000000 → k ≤ sizeLine := fun h => Nat.le_trans h (by rw [sizeLine_eq]; decide)
  obtain ⟨k1, k2, k3, k4, k5, k6, k7, k8, k9, k10, k11, k12, k13, k14, k15, k16, k17⟩ : ("when" : Str) ≠ "if" ∧ ("show" : Str) ≠ "if" ∧ ("show" : Str) ≠ "when" ∧ ("set" : Str) ≠ "if" ∧ ("set" : Str) ≠ "when" ∧ ("set" : Str) ≠ "show" ∧ ("draw" : Str) ≠ "if" ∧ ("draw" : Str) ≠ "when" ∧ ("draw" : Str) ≠ "show" ∧ ("draw" : Str) ∉ (["set", "lot"] : List Str) ∧ ("draw" : Str) ≠ "while" ∧
    ("move" : Str) ≠ "if" ∧ ("move" : Str) ≠ "when" ∧ ("move" : Str) ≠ "show" ∧ ("move" : Str) ∉ (["set", "lot"] : List Str) ∧ ("move" : Str) ≠ "while" ∧ ("move" : Str) ≠ "draw" := by decide +kernel
  cases hv with
  | @ite a b c v e vs ws t f ha he htb ht hfb hf =>
    have hn' : max (lvL t) (lvL f) + 1 ≤ n := hn
    have hl' : (e.words ++ branchW t f).length + 1 ≤ 1000000 := hl
    rw [List.length_append] at hl'
    refine ⟨_, rfl, a, _, 0, .str "if", rfl, rfl, ha.sq, atI_nat (j := 0) rfl, ?_⟩
    refine ⟨_, rfl, rfl, _, rfl, iteS ?_⟩
    refine ⟨_, rfl, a, _, 1, v, rfl, rfl, ha.sq, atI_nat (j := 1) rfl, v, e, ns, ps, rfl, hw.1.2, by omega, he, hw.1.1, fun p H1 s1 np e1 => ?_⟩
    refine ⟨p, _, rfl, .inr (SqL.of e1), ?_⟩
    refine ⟨_, rfl, a, b, c, _, vs, ws, t, f, ns, ps, rfl, ha.keep (keepT_of s1), rfl, rfl, htb.keep (keepT_of s1), ht.keep (keepT_of s1), hfb.keep (keepT_of s1), hf.keep (keepT_of s1), by omega, by omega, by omega, ok, hw.2.1, hw.2.2, hb.1, hb.2, by omega, fun p2 H2 s2 np2 e2 => ?_⟩
    refine ⟨p2, _, rfl, .inr (SqL.of e2), ?_, fun U fU => ?_⟩
    · show ((e.words.map V.str) ++ ((branchW t f).map V.str ++ [])).length + 1 ≤ _
      rw [List.append_nil, List.length_append, List.length_map, List.length_map]
      exact big hl'
    refine q U _ ((s1.trans s2).trans (same_upd fU)) ((s1.trans s2).free fU) ?_
    rw [upd_same]
    show some (HO.lst (V.str "if" :: (e.words.map V.str ++ ((branchW t f).map V.str ++ [])))) = some (.lst ((("if" : Str) :: (e.words ++ branchW t f)).map V.str))
    rw [List.append_nil, List.map_cons, List.map_append]
  | @whn a b c o vs ws t f ha htb ht hfb hf =>
    have hn' : max (lvL t) (lvL f) + 1 ≤ n := hn
    have hl' : (branchW t f).length + 1 + 1 ≤ 1000000 := hl
    refine ⟨_, rfl, a, _, 0, .str "when", rfl, rfl, ha.sq, atI_nat (j := 0) rfl, ?_⟩
    refine ⟨_, rfl, rfl, _, rfl, iteN k1 ?_⟩
    refine ⟨_, rfl, rfl, _, rfl, iteS ?_⟩
    refine ⟨_, rfl, a, _, 1, .str o, rfl, rfl, ha.sq, atI_nat (j := 1) rfl, ?_⟩
    refine ⟨_, rfl, a, b, c, _, vs, ws, t, f, ns, ps, rfl, ha, rfl, rfl, htb, ht, hfb, hf, by omega, by omega, by omega, ok, hw.2.1, hw.2.2, hb.1, hb.2, by omega, fun p2 H2 s2 np2 e2 => ?_⟩
    refine ⟨p2, _, rfl, .inr (SqL.of e2), ?_, fun U fU => ?_⟩
    · show ((branchW t f).map V.str ++ []).length + 1 + 1 ≤ _
      rw [List.append_nil, List.length_map]
      exact big hl'
    refine q U _ (s2.trans (same_upd fU)) (s2.free fU) ?_
    rw [upd_same]
    show some (HO.lst (V.str "when" :: V.str o :: ((branchW t f).map V.str ++ []))) = some (.lst ((("when" : Str) :: o :: branchW t f).map V.str))
    rw [List.append_nil, List.map_cons, List.map_cons]
  | @«show» a m v e ha he =>
    have hl' : e.words.length + 1 + 1 ≤ 1000000 := hl
    refine ⟨_, rfl, a, _, 0, .str "show", rfl, rfl, ha.sq, atI_nat (j := 0) rfl, ?_⟩
    refine ⟨_, rfl, rfl, _, rfl, iteN k2 ?_⟩
    refine ⟨_, rfl, rfl, _, rfl, iteN k3 ?_⟩
    refine ⟨_, rfl, rfl, _, rfl, iteS ?_⟩
    refine ⟨_, rfl, a, _, 1, .int m, rfl, rfl, ha.sq, atI_nat (j := 1) rfl, T.A_SEATS, seatL.map V.str, m, .str (seatS m), rfl, rfl, T.q_SEATS _, seat_at hb.1 hb.2, ?_⟩
    refine ⟨_, rfl, a, _, 2, v, rfl, rfl, ha.sq, atI_nat (j := 2) rfl, v, e, ns, ps, rfl, hw.2, by omega, he, hw.1, fun p H1 s1 np e1 => ?_⟩
    refine ⟨p, _, rfl, .inr (SqL.of e1), ?_, fun U fU => ?_⟩
    · show (e.words.map V.str ++ []).length + 1 + 1 ≤ _
      rw [List.append_nil, List.length_map]
      exact big hl'
    refine q U _ (s1.trans (same_upd fU)) (s1.free fU) ?_
    rw [upd_same]
    show some (HO.lst (V.str "show" :: V.str (seatS m) :: (e.words.map V.str ++ []))) = some (.lst ((("show" : Str) :: seatS m :: e.words).map V.str))
    rw [List.append_nil, List.map_cons, List.map_cons]
  | @set a x v e ha he =>
    have hl' : e.words.length + 1 + 1 ≤ 1000000 := hl
    refine ⟨_, rfl, a, _, 0, .str "set", rfl, rfl, ha.sq, atI_nat (j := 0) rfl, ?_⟩
    refine ⟨_, rfl, rfl, _, rfl, iteN k4 ?_⟩
    refine ⟨_, rfl, rfl, _, rfl, iteN k5 ?_⟩
    refine ⟨_, rfl, rfl, _, rfl, iteN k6 ?_⟩
    refine ⟨_, rfl, by show 2 ≤ sizeLine; decide, fun U fU => ?_⟩
    have sU := same_upd (o := .tup ((["set", "lot"] : List Str).map V.str)) fU
    refine ⟨U, (["set", "lot"] : List Str).map V.str, rfl, .inr (SqT.of upd_same), rfl, strs_flat _, _, rfl, ite2 (fun _ => ?_) (fun y => absurd List.mem_cons_self (inv_f y))⟩
    refine ⟨_, rfl, _, rfl, a, _, 1, .str x, rfl, rfl, (ha.keep (keepT_of sU)).sq, atI_nat (j := 1) rfl, ?_⟩
    refine ⟨_, rfl, a, _, 2, v, rfl, rfl, (ha.keep (keepT_of sU)).sq, atI_nat (j := 2) rfl, v, e, ns, ps, rfl, hw.2.2, by omega, he.keep (keepT_of sU), hw.2.1, fun p H1 s1 np e1 => ?_⟩
    refine ⟨p, _, rfl, .inr (SqL.of e1), ?_, fun Y fY => ?_⟩
    · show (e.words.map V.str ++ []).length + 1 + 1 ≤ _
      rw [List.append_nil, List.length_map]
      exact big hl'
    refine q Y _ ((sU.trans s1).trans (same_upd fY)) ((sU.trans s1).free fY) ?_
    rw [upd_same]
    show some (HO.lst (V.str "set" :: V.str x :: (e.words.map V.str ++ []))) = some (.lst ((("set" : Str) :: x :: e.words).map V.str))
    rw [List.append_nil, List.map_cons, List.map_cons]
  | @draw a x m ha =>
    refine ⟨_, rfl, a, _, 0, .str "draw", rfl, rfl, ha.sq, atI_nat (j := 0) rfl, ?_⟩
    refine ⟨_, rfl, rfl, _, rfl, iteN k7 ?_⟩
    refine ⟨_, rfl, rfl, _, rfl, iteN k8 ?_⟩
    refine ⟨_, rfl, rfl, _, rfl, iteN k9 ?_⟩
    refine ⟨_, rfl, by show 2 ≤ sizeLine; decide, fun U fU => ?_⟩
    have sU := same_upd (o := .tup ((["set", "lot"] : List Str).map V.str)) fU
    refine ⟨U, (["set", "lot"] : List Str).map V.str, rfl, .inr (SqT.of upd_same), rfl, strs_flat _, _, rfl, ite2 (fun y => absurd (inv_t y) k10) (fun _ => ?_)⟩
    refine ⟨_, rfl, rfl, _, rfl, iteN k11 ?_⟩
    refine ⟨_, rfl, rfl, _, rfl, iteS ?_⟩
    refine ⟨_, rfl, a, _, 1, .str x, rfl, rfl, (ha.keep (keepT_of sU)).sq, atI_nat (j := 1) rfl, ?_⟩
    refine ⟨_, rfl, a, _, 2, .int m, rfl, rfl, (ha.keep (keepT_of sU)).sq, atI_nat (j := 2) rfl, m, rfl, ?_, by show 3 ≤ sizeLine; decide, fun Y fY => q Y _ (sU.trans (same_upd fY)) (sU.free fY) upd_same⟩
    obtain ⟨j, rfl⟩ : ∃ j : Nat, m = (j : Int) := ⟨m.toNat, by have := hb.1; omega⟩
    exact log_small (Nat.lt_of_lt_of_le (show j < 65536 by have := hb.2; omega) (by decide +kernel))
  | @move a p m k x ha =>
    refine ⟨_, rfl, a, _, 0, .str "move", rfl, rfl, ha.sq, atI_nat (j := 0) rfl, ?_⟩
    refine ⟨_, rfl, rfl, _, rfl, iteN k12 ?_⟩
    refine ⟨_, rfl, rfl, _, rfl, iteN k13 ?_⟩
    refine ⟨_, rfl, rfl, _, rfl, iteN k14 ?_⟩
    refine ⟨_, rfl, by show 2 ≤ sizeLine; decide, fun U fU => ?_⟩
    have sU := same_upd (o := .tup ((["set", "lot"] : List Str).map V.str)) fU
    refine ⟨U, (["set", "lot"] : List Str).map V.str, rfl, .inr (SqT.of upd_same), rfl, strs_flat _, _, rfl, ite2 (fun y => absurd (inv_t y) k15) (fun _ => ?_)⟩
    refine ⟨_, rfl, rfl, _, rfl, iteN k16 ?_⟩
    refine ⟨_, rfl, rfl, _, rfl, iteN k17 ?_⟩
    refine ⟨_, rfl, rfl, _, rfl, iteS ?_⟩
    refine ⟨_, rfl, a, _, 1, .int p, rfl, rfl, (ha.keep (keepT_of sU)).sq, atI_nat (j := 1) rfl, T.A_SEATS, seatL.map V.str, p, .str (seatS p), rfl, rfl, T.q_SEATS _, seat_at hb.1.1 hb.1.2, ?_⟩
    refine ⟨_, rfl, a, _, 2, .str x, rfl, rfl, (ha.keep (keepT_of sU)).sq, atI_nat (j := 2) rfl, ?_⟩
    refine ⟨_, rfl, a, _, 3, .int m, rfl, rfl, (ha.keep (keepT_of sU)).sq, atI_nat (j := 3) rfl, m, rfl, ?_, by show 3 ≤ sizeLine; decide, fun Y fY => q Y _ (sU.trans (same_upd fY)) (sU.free fY) upd_same⟩
    obtain ⟨j, rfl⟩ : ∃ j : Nat, m = (j : Int) := ⟨m.toNat, by have := hb.2.1; omega⟩
    exact log_small (Nat.lt_of_lt_of_le (show j < 65536 by have := hb.2.2; omega) (by decide +kernel))
  | @pay a z v e ha he =>
    have hl' : e.words.length + 1 ≤ 1000000 := hl
    have t : ∀ y ∈ (["pay", "take"] : List Str), y ≠ "if" ∧ y ≠ "when" ∧ y ≠ "show" ∧ y ∉ (["set", "lot"] : List Str) ∧ y ≠ "while" ∧ y ≠ "draw" ∧ y ≠ "move" := by decide +kernel
    have mz : z ∈ (["pay", "take"] : List Str) := by
      rcases hw.1 with rfl | rfl
      · exact List.mem_cons_self
      · exact List.mem_cons_of_mem _ List.mem_cons_self
    obtain ⟨t1, t2, t3, t4, t5, t6, t7⟩ := t z mz
    refine ⟨_, rfl, a, _, 0, .str z, rfl, rfl, ha.sq, atI_nat (j := 0) rfl, ?_⟩
    refine ⟨_, rfl, rfl, _, rfl, iteN t1 ?_⟩
    refine ⟨_, rfl, rfl, _, rfl, iteN t2 ?_⟩
    refine ⟨_, rfl, rfl, _, rfl, iteN t3 ?_⟩
    refine ⟨_, rfl, by show 2 ≤ sizeLine; decide, fun U fU => ?_⟩
    have sU := same_upd (o := .tup ((["set", "lot"] : List Str).map V.str)) fU
    refine ⟨U, (["set", "lot"] : List Str).map V.str, rfl, .inr (SqT.of upd_same), rfl, strs_flat _, _, rfl, ite2 (fun y => absurd (inv_t y) t4) (fun _ => ?_)⟩
    refine ⟨_, rfl, rfl, _, rfl, iteN t5 ?_⟩
    refine ⟨_, rfl, rfl, _, rfl, iteN t6 ?_⟩
    refine ⟨_, rfl, rfl, _, rfl, iteN t7 ?_⟩
    refine ⟨_, rfl, _, rfl, a, _, 1, v, rfl, rfl, (ha.keep (keepT_of sU)).sq, atI_nat (j := 1) rfl, v, e, ns, ps, rfl, hw.2.2, by omega, he.keep (keepT_of sU), hw.2.1, fun p H1 s1 np e1 => ?_⟩
    refine ⟨p, _, rfl, .inr (SqL.of e1), ?_, fun Y fY => ?_⟩
    · show (e.words.map V.str ++ []).length + 1 ≤ _
      rw [List.append_nil, List.length_map]
      exact big hl'
    refine q Y _ ((sU.trans s1).trans (same_upd fY)) ((sU.trans s1).free fY) ?_
    rw [upd_same]
    show some (HO.lst (V.str z :: (e.words.map V.str ++ []))) = some (.lst ((z :: e.words).map V.str))
    rw [List.append_nil, List.map_cons]
/-! ### block_words -/
theorem step_block_words (T : Txt K mg) {n : Nat} (G : FnOk P w K mg base CX0 (13 + 3 * n) T.a_block_words T.d_block_words ["block"] (sp_block_words T n)) : FnOk P w K mg base CX0 (13 + 3 * n + 3) T.a_block_words T.d_block_words ["block"] (sp_block_words T (n + 1)) := by
  refine T.F_block_words.ok sc_block_words (fun vs H Q E h => ?_) (fun cdv A outer s H vs Q E hr h => ?_)
  · obtain ⟨b, ws, ss, ns, ps, rfl, _⟩ := h
    rfl
  obtain ⟨b, ws, ss, ns, ps, rfl, hb, hv, ln, n10, ok, hw, hnb, hl, q⟩ := h
  refine ⟨_, (pss_cons (ps_set (i := 1) sc_block_words.nd rfl (by first | exact Or.inl rfl | exact Or.inr rfl) (pe_lst pa_nil))
      (pss_cons (ps_for PassesOwn.never rfl (pi_tup (pv 0)) (pg_name (i := 2) sc_block_words.nd rfl (by first | exact Or.inl rfl | exact Or.inr rfl)) (pss_one (ps_expr (pe_bm PySem.F.plainAttrs_list PySem.F.slot_list_extend PySem.F.type_list_extend mt_extend (pv 1) (pa_cons (pe_call (ok_statement_words T G) (hr.mono (by omega)) (by rfl) T.m_statement_words T.F_statement_words.kp T.b_statement_words .nil pass0 (pa_cons (pv 2) pa_nil)) pa_nil)))))
      (pss_one (ps_ret (pv 1))))), ?_⟩
  refine ⟨by show 0 ≤ sizeLine; decide, fun W fW => ?_⟩
  have sW := same_upd (o := .lst []) fW
  refine ⟨_, rfl, b, rfl, ⟨_, (hb.keep (keepT_of sW)).sq⟩, for_tup (K := K) (a := b) (xs := ws) (fun i σ' H' => ∃ (y : Option V), σ' = [some (.ref b), some (.ref W), y] ∧ Same H H' ∧ H' W = some (.lst ((blockW (ss.take i)).map V.str))) ⟨_, rfl, sW, by rw [List.take_zero]; exact upd_same⟩ ?_ ?_ ?_⟩
  · rintro i σ' H' _ ⟨y, rfl, s1, _⟩
    exact (hb.keep (keepT_of s1)).sq
  · rintro i z σ' H' hi ⟨y, rfl, s1, e1⟩
    obtain ⟨s0, hs, hz⟩ := hv.get hi
    have tk : ss.take (i + 1) = ss.take i ++ [s0] := by rw [List.take_add_one, hs]; rfl
    have bw1 : blockW (ss.take (i + 1)) = blockW (ss.take i) ++ s0.words := by
      rw [tk, blockW_app]
      show _ ++ (s0.words ++ []) = _
      rw [List.append_nil]
    have tot : (blockW (ss.take (i + 1))).length ≤ 1000000 := by
      have h1 : (blockW (ss.take (i + 1))).length + (blockW (ss.drop (i + 1))).length = (blockW ss).length := by
        rw [← List.length_append, ← blockW_app, List.take_append_drop]
      omega
    rw [bw1, List.length_append] at tot
    have l1 := lvL_get hs
    refine ⟨_, rfl, .inl ⟨rfl, _, SqL.of e1⟩, _, rfl, z, s0, ns, ps, rfl, hz.keep (keepT_of s1), by omega, by omega, ok, wfL_get hw hs, nbL_get hnb hs, by omega, fun p H2 s2 np e2 => ?_⟩
    refine ⟨W, p, _, _, rfl, rfl, s2 _ _ e1, e2, ?_, ?_⟩
    · rw [List.length_map, List.length_map, sizeLine_eq]
      omega
    exact ⟨_, rfl, same_at (s1.trans s2) fW, by rw [upd_same, bw1, List.map_append]⟩
  · rintro σ' H' ⟨y, rfl, s1, e1⟩
    refine ⟨_, rfl, q W H' s1 fW ?_⟩
    have hl2 : ws.length = ss.length := Bv.len hv
    rw [e1, hl2, List.take_length]
theorem ok_block_words (T : Txt K mg) : ∀ n, FnOk P w K mg base CX0 (13 + 3 * n) T.a_block_words T.d_block_words ["block"] (sp_block_words T n)
  | 0 => ⟨fun vs H Q E h => absurd h (no_block_words T vs H Q E), fun A outer s H args us vs Q E _ _ _ _ h => absurd h (no_block_words T vs H Q E)⟩
  | n + 1 => step_block_words T (ok_block_words T n)
/-! ### Game.__eq__ -/
theorem gmNd {o u r : Addr} : (([("options", .ref o), ("variables", .ref u), ("rounds", .ref r)] : List (Str × V)).map (·.1)).Nodup := by
  show (["options", "variables", "rounds"] : List Str).Nodup
  decide +kernel
def optD (q : Str × Bool) : PyData := .tuple [.str q.1, .bool q.2]
def varD (q : Str × Int) : PyData := .tuple [.str q.1, .int q.2]
def rndD (q : Str × List St) : PyData := .tuple [.str q.1, .tuple (datL q.2)]
theorem dp_map {α : Type} {K : PySem.W.Frag} {H : Hp} {R : V → α → Prop} {f : α → PyData} (h : ∀ v x, R v x → Dp K H v (f x)) {vs : List V} {xs : List α} (p : Paired R vs xs) : DpAll K H vs (xs.map f) := by
  induction p with
  | nil => exact .nil
  | cons r _ ih => exact .cons (h _ _ r) ih
theorem OptV.dp {K : PySem.W.Frag} {H : Hp} {v : V} {q : Str × Bool} (h : OptV H v q) : Dp K H v (optD q) := by
  obtain ⟨a, rfl, t⟩ := h
  exact .tup (SqT.of t) (.cons (.str _) (.cons (.bl _) .nil))
theorem VarV.dp {K : PySem.W.Frag} {H : Hp} {v : V} {q : Str × Int} (h : VarV H v q) : Dp K H v (varD q) := by
  obtain ⟨a, rfl, t⟩ := h
  exact .tup (SqT.of t) (.cons (.str _) (.cons (.int _) .nil))
theorem RndV.dp {K : PySem.W.Frag} {H : Hp} {v : V} {q : Str × List St} (h : RndV K H v q) : Dp K H v (rndD q) := by
  obtain ⟨a, b, ws, rfl, t, u, w⟩ := h
  exact .tup (SqT.of t) (.cons (.str _) (.cons (.tup (SqT.of u) w.dp) .nil))
theorem lay_map {α : Type} {f : α → PyData} : ∀ {xs : List α}, (∀ x ∈ xs, (f x).canLay0 = true) → PyData.canLayAll0 (xs.map f) = true
  | [], _ => by simp [PyData.canLayAll0]
  | x :: r, h => by
    have := lay_map (f := f) (xs := r) fun y m => h y (List.mem_cons_of_mem _ m)
    simp [PyData.canLayAll0, h x List.mem_cons_self, this]
theorem dep_map {α : Type} {f : α → PyData} {n : Nat} : ∀ {xs : List α}, (∀ x ∈ xs, (f x).depth ≤ n) → PyData.depthAll (xs.map f) ≤ n
  | [], _ => by simp [PyData.depthAll]
  | x :: r, h => by
    have := dep_map (f := f) (n := n) (xs := r) fun y m => h y (List.mem_cons_of_mem _ m)
    have := h x List.mem_cons_self
    simp only [List.map_cons, PyData.depthAll]
    omega
theorem sh_tuple {α : Type} {f : α → PyData} {n : Nat} {xs : List α} (h : ∀ x ∈ xs, (f x).canLay0 = true ∧ (f x).depth ≤ n) (n60 : n ≤ 60) : SeqAt.shaped (.tuple (xs.map f)) = true := by
  unfold SeqAt.shaped
  rw [Bool.and_eq_true]
  refine ⟨?_, decide_eq_true ?_⟩
  · unfold PyData.canLay0
    exact lay_map fun x m => (h x m).1
  · have := dep_map (f := f) (n := n) fun x m => (h x m).2
    unfold PyData.depth
    omega
/-- names that can be laid, blocks that are well-formed -/
structure GLay (os : List (Str × Bool)) (us : List (Str × Int)) (rs : List (Str × List St)) : Prop where
  o : ∀ q ∈ os, PyData.strOk q.1 = true
  u : ∀ q ∈ us, PyData.strOk q.1 = true
  r : ∀ q ∈ rs, PyData.strOk q.1 = true ∧ PyData.canLayAll0 (datL q.2) = true ∧ PyData.depthAll (datL q.2) ≤ 30
theorem GLay.so {os : List (Str × Bool)} {us : List (Str × Int)} {rs : List (Str × List St)} (h : GLay os us rs) : SeqAt.shaped (.tuple (os.map optD)) = true := sh_tuple (n := 1) (fun q m => by
  have := h.o q m
  simp [optD, PyData.canLay0, PyData.canLayAll0, PyData.depth, PyData.depthAll, this]) (by decide)
theorem GLay.su {os : List (Str × Bool)} {us : List (Str × Int)} {rs : List (Str × List St)} (h : GLay os us rs) : SeqAt.shaped (.tuple (us.map varD)) = true := sh_tuple (n := 1) (fun q m => by
  have := h.u q m
  simp [varD, PyData.canLay0, PyData.canLayAll0, PyData.depth, PyData.depthAll, this]) (by decide)
theorem GLay.sr {os : List (Str × Bool)} {us : List (Str × Int)} {rs : List (Str × List St)} (h : GLay os us rs) : SeqAt.shaped (.tuple (rs.map rndD)) = true := sh_tuple (n := 40) (fun q m => by
  obtain ⟨h1, h2, h3⟩ := h.r q m
  refine ⟨by simp [rndD, PyData.canLay0, PyData.canLayAll0, h1, h2], ?_⟩
  simp only [rndD, PyData.depth, PyData.depthAll]
  omega) (by decide)
theorem GOk.lay {os : List (Str × Bool)} {us : List (Str × Int)} {rs : List (Str × List St)} (h : GOk os us rs) : GLay os us rs := by
  have ho : ∀ x ∈ os.map (·.1), PyData.strOk x = true := fun x m => (h.o.1 x m).1.ok
  have hu : ∀ x ∈ us.map (·.1), PyData.strOk x = true := fun x m => (h.u.1 x m).1.ok
  refine ⟨fun q m => ho _ (List.mem_map.mpr ⟨q, m, rfl⟩), fun q m => hu _ (List.mem_map.mpr ⟨q, m, rfl⟩), fun q m => ?_⟩
  obtain ⟨k, k', g, lv⟩ := gr_mem h.g m
  obtain ⟨w, _⟩ := bl_wf _ _ _ g
  refine ⟨(h.r.1 _ (List.mem_map.mpr ⟨q, m, rfl⟩)).1.ok, ldat_lay hu ho _ w, ?_⟩
  have := ldat_depth _ w
  omega
theorem sh_refl {d : PyData} (h : SeqAt.shaped d = true) : PyData.eqv d d = true := SeqAt.eqv_refl _ (SeqAt.canLay_of_shaped h)
def sp_Game_eq (T : Txt K mg) : Sp := fun vs H Q _ => ∃ (a b : Addr) (os : List (Str × Bool)) (us : List (Str × Int)) (rs : List (Str × List St)), vs = [.ref a, .ref b] ∧ GameS K T.C_Game H a os us rs ∧ GameS K T.C_Game H b os us rs ∧ GLay os us rs ∧ Q (.bl true) H

theorem ok_Game_eq (T : Txt K mg) : FnOk P w K mg base CX0 1 T.a_Game_eq T.d_Game_eq ["self", "other"] (sp_Game_eq T) := by
  refine T.F_Game_eq.ok sc_Game_eq (fun vs H Q E h => ?_) (fun cdv A outer s H vs Q E hr h => ?_)
  · obtain ⟨a, b, os, us, rs, rfl, _⟩ := h
    rfl
  obtain ⟨a, b, os, us, rs, rfl, ⟨dx, o1, u1, r1, ov1, uv1, rv1, ha, ho1, po1, hu1, pu1, hr1, pr1⟩, ⟨dy, o2, u2, r2, ov2, uv2, rv2, hb, ho2, po2, hu2, pu2, hr2, pr2⟩, hl, q⟩ := h
  refine ⟨_, (pss_one (ps_ret (pe_and (pe_callB (C8.call_isC T.ic_Game) (by rfl) T.z_isinstance (by first | exact PySem.boot_isinstance | decide +kernel) (pa_cons (pv 1) (pa_cons (pe_glob (v := .ref T.C_Game) (by rfl) T.m_Game rfl) pa_nil))) (pe_and (pe_cmpR (op_eqD (eq_room hr)) (pe_fld (pv 0) rfl) (pe_fld (pv 1) rfl) (nomark _)) (pe_and (pe_cmpR (op_eqD (eq_room hr)) (pe_fld (pv 0) rfl) (pe_fld (pv 1) rfl) (nomark _)) (pe_one (pe_cmpR (op_eqD (eq_room hr)) (pe_fld (pv 0) rfl) (pe_fld (pv 1) rfl) (nomark _)))))))), ?_⟩
  refine ⟨_, rfl, b, dy, _, rfl, hb, _, rfl, iteT ?_⟩
  refine ⟨_, rfl, a, T.C_Game, dx, _, _, rfl, ha, T.cl_Game, T.n_Game_options, lk_ix gmNd 0 rfl, _, rfl, b, T.C_Game, dy, _, _, rfl, hb, T.cl_Game, T.n_Game_options, lk_ix gmNd 0 rfl, ?_⟩
  refine ⟨.tuple (os.map optD), .tuple (os.map optD), .tup (SqT.of ho1) (dp_map (fun _ _ y => y.dp) po1), .tup (SqT.of ho2) (dp_map (fun _ _ y => y.dp) po2), hl.so, hl.so, ?_⟩
  rw [sh_refl hl.so]
  refine ⟨_, rfl, iteT ?_⟩
  refine ⟨_, rfl, a, T.C_Game, dx, _, _, rfl, ha, T.cl_Game, T.n_Game_variables, lk_ix gmNd 1 rfl, _, rfl, b, T.C_Game, dy, _, _, rfl, hb, T.cl_Game, T.n_Game_variables, lk_ix gmNd 1 rfl, ?_⟩
  refine ⟨.tuple (us.map varD), .tuple (us.map varD), .tup (SqT.of hu1) (dp_map (fun _ _ y => y.dp) pu1), .tup (SqT.of hu2) (dp_map (fun _ _ y => y.dp) pu2), hl.su, hl.su, ?_⟩
  rw [sh_refl hl.su]
  refine ⟨_, rfl, iteT ?_⟩
  refine ⟨_, rfl, a, T.C_Game, dx, _, _, rfl, ha, T.cl_Game, T.n_Game_rounds, lk_ix gmNd 2 rfl, _, rfl, b, T.C_Game, dy, _, _, rfl, hb, T.cl_Game, T.n_Game_rounds, lk_ix gmNd 2 rfl, ?_⟩
  refine ⟨.tuple (rs.map rndD), .tuple (rs.map rndD), .tup (SqT.of hr1) (dp_map (fun _ _ y => y.dp) pr1), .tup (SqT.of hr2) (dp_map (fun _ _ y => y.dp) pr2), hl.sr, hl.sr, ?_⟩
  rw [sh_refl hl.sr]
  exact q
/-! ### _names -/
def sp_names (T : Txt K mg) : Sp := fun vs H Q _ => ∃ (b : Addr) (us : List V) (xs : List Str), vs = [.ref b] ∧ H b = some (.lst us) ∧ Paired (NmV H) us xs ∧ xs.length ≤ 100 ∧ ∀ (p : Addr) (H' : Hp), Same H H' → H p = none → H' p = some (.lst (xs.map V.str)) → Q (.ref p) H'

theorem ok_names (T : Txt K mg) : FnOk P w K mg base CX0 1 T.a_names T.d_names ["pairs"] (sp_names T) := by
  refine T.F_names.ok sc_names (fun vs H Q E h => ?_) (fun cdv A outer s H vs Q E hr h => ?_)
  · obtain ⟨b, us, xs, rfl, _⟩ := h
    rfl
  obtain ⟨b, us, xs, rfl, hb, hp, hl, q⟩ := h
  refine ⟨_, (pss_one (ps_ret (pe_lc (own := [("pair", 1)]) (g := gName 1) (tt := tYes) rfl sc_names.nd (pi_list (pv 0)) (blkOk_by (N := N_names) (sc := defScope s_names) (by decide +kernel)) (fun _ _ _ _ _ => (pg_name (i := 1) sc_names.nd rfl (by first | exact Or.inl rfl | exact Or.inr rfl))) (fun _ _ _ _ _ => pts_nil) (fun _ _ _ _ _ => (pe_ix (show IxR _ (rIxT K) from ix_tup) (pv 1) pe_int (fun _ _ => rfl)))))), ?_⟩
  have ul := paired_len hp
  refine ⟨_, rfl, b, rfl, ⟨_, SqL.of hb⟩, fun D hD => ?_⟩
  refine lc_list (a := b) (xs := us) (fun i H' => Same H H' ∧ H' D = some (.lst ((xs.take i).map V.str))) ⟨same_upd hD, upd_same⟩ (fun i H' _ h => h.1.seq (SqL.of hb)) (fun i x H' hx h => ?_) (fun H9 h => ?_)
  · obtain ⟨q0, hq, a, r, rfl, ha⟩ := pgetC hp hx
    refine ⟨rfl, ?_⟩
    refine ⟨_, rfl, a, _, 0, .str q0, rfl, rfl, SqT.of (h.1 _ _ ha), atI_nat (j := 0) rfl, ?_⟩
    refine ⟨_, h.2, ?_, same_at h.1 hD, ?_⟩
    · rw [List.length_map, List.length_take]
      exact small1000 (by omega)
    · rw [upd_same, List.take_add_one, hq, List.map_append]
      rfl
  obtain ⟨s9, e9⟩ := h
  rw [ul, List.take_length] at e9
  exact q D H9 s9 hD e9
/-! ### _read_options@x -/
def sp_read_options_x (T : Txt K mg) : Sp := fun vs H Q E => ∃ (c : CuI) (i : Nat), vs = [.ref c.a] ∧ CuX K T.C_Cursor H c i ∧ Wds c.ws ∧ c.ws.length < 90000 ∧ HdK K T.C_Cursor T.C_BadText OptV H c (optsM c.ws 7 [] i) Q E

theorem ok_read_options_x (T : Txt K mg) : FnOk P w K mg base (L2.CX P w) 6 T.a_read_options T.d_read_options ["cursor"] (sp_read_options_x T) := by
  refine T.F_read_options.okX sc_read_options (fun vs H Q E h => ?_) (fun cdv A outer s H vs Q E hr h => ?_)
  · obtain ⟨c, i, rfl, _⟩ := h
    rfl
  obtain ⟨c, i, rfl, hC, hW, hl, q⟩ := h
  refine ⟨_, (pss_cons (ps_set (i := 1) sc_read_options.nd rfl (by first | exact Or.inl rfl | exact Or.inr rfl) (pe_lst pa_nil))
      (pss_cons (ps_while (passes_of rfl) (PW.pt (pw_and (pt_cmpR op_eq (pe_prop (pv 0) T.cl_Cursor T.pr_Cursor_word (ok_Cursor_word T) (hr.mono (by decide)) T.b_Cursor_word .nil pass0 rfl) pe_str (nomark _)) (pw_and1 (pt_cmpR op_lt (pe_callB call_len_seq (by rfl) T.z_len (by first | exact PySem.boot_len | decide +kernel) (pa_cons (pv 1) pa_nil)) (pe_glob (by rfl) T.g_MOST_OPTIONS T.r_MOST_OPTIONS) (nomark _))))) (pss_cons (ps_expr (pe_methT (pv 0) T.cl_Cursor T.me_Cursor_take_word (ok_Cursor_take_word_x T) (hr.mono (by decide)) T.b_Cursor_take_word .nil (fun σ => passAt (takes_of rfl rfl rfl rfl) σ) (pa_cons pe_str pa_nil)))
      (pss_cons (ps_set (i := 2) sc_read_options.nd rfl (by first | exact Or.inl rfl | exact Or.inr rfl) (pe_methT (pv 0) T.cl_Cursor T.me_Cursor_take_new_name (ok_Cursor_take_new_name_x T) (hr.mono (by decide)) T.b_Cursor_take_new_name .nil (fun σ => passAt (takes_of rfl rfl rfl rfl) σ) (pa_cons (pe_call (ok_names T) (hr.mono (by decide)) (by rfl) T.m_names T.F_names.kp T.b_names .nil pass0 (pa_cons (pv 1) pa_nil)) pa_nil)))
      (pss_one (ps_expr (pe_bm PySem.F.plainAttrs_list PySem.F.slot_list_append PySem.F.type_list_append mt_append (pv 1) (pa_cons (pe_tup (pa_cons (pv 2) (pa_cons (pe_cmpR op_eq (pe_methT (pv 0) T.cl_Cursor T.me_Cursor_take_name (ok_Cursor_take_name_x T) (hr.mono (by decide)) T.b_Cursor_take_name .nil (fun σ => passAt (takes_of rfl rfl rfl rfl) σ) (pa_cons (pe_tup (pa_cons pe_str (pa_cons pe_str pa_nil))) pa_nil)) pe_str (nomark _)) pa_nil))) pa_nil)))))))
      (pss_one (ps_ret (pv 1))))), ?_⟩
  refine ⟨by show 0 ≤ sizeLine; decide, fun W fW => ?_⟩
  have sW := same_upd (o := .lst []) fW
  have nWa : W ≠ c.a := by
    obtain ⟨_, ⟨dx, ha⟩, _⟩ := hC
    exact (ne_of_none ha fW).symm
  have nWl : W ≠ c.wl := (ne_of_none hC.2.2.1 fW).symm
  refine ⟨fun m σ' H' => ∃ (vs : List V) (acc : List (Str × Bool)) (j : Nat) (y : Option V), σ' = [some (.ref c.a), some (.ref W), y] ∧ 6 - acc.length < m ∧ acc.length ≤ 6 ∧ But c.a H H' ∧ CuX K T.C_Cursor H' c j ∧ H' W = some (.lst vs) ∧ Paired (OptV H') vs acc ∧ optsM c.ws m acc j = optsM c.ws 7 [] i, ⟨7, [], [], i, _, rfl, by decide, by decide, but_of sW, hC.same sW, upd_same, .nil, rfl⟩, ?_⟩
  rintro m σ1 H1 ⟨vs, acc, j, y, rfl, hm, l6, b1, C1, e1, p1, eq1⟩
  obtain ⟨f, rfl⟩ : ∃ f, m = f + 1 := ⟨m - 1, by omega⟩
  obtain ⟨hle, ⟨dx, ha⟩, hw, hz1, hz2⟩ := id C1
  rw [← eq1] at q
  have q0 : HdK K T.C_Cursor T.C_BadText OptV H c (if c.ws[j]? = some ("option" : Str) ∧ acc.length < 6 then (match freshM c.ws (acc.map (·.1)) (j + 1) with
      | none => .bad (j + 1)
      | some x => match nameM c.ws ["on", "off"] (j + 2) with
        | none => .bad (j + 2)
        | some y => optsM c.ws f (acc ++ [(x, decide (y = "on"))]) (j + 3))
    else .ok acc j) Q E := q
  have lv : vs.length = acc.length := paired_len p1
  refine ⟨_, rfl, c.a, dx, _, rfl, ha, c, j, rfl, C1, here_scal, _, rfl, ite2 (fun w1 => ?_) (fun w1 => ?_)⟩
  rotate_left
  · have ne : c.ws[j]? ≠ some ("option" : Str) := fun z => w1 (by rw [here_some' z]; exact decide_eq_true rfl)
    rw [if_neg (fun z => ne z.1)] at q0
    exact ⟨_, rfl, q0 W vs H1 b1 fW e1 p1 C1⟩
  have ye : hereV c.ws j = .str "option" := of_decide_eq_true w1
  have ee : c.ws[j]? = some ("option" : Str) := here_some ye
  refine ⟨_, rfl, W, _, rfl, .inl (SqL.of e1), _, _, rfl, rfl, _, rfl, ite2 (fun w2 => ?_) (fun w2 => ?_)⟩
  rotate_left
  · have n2 : ¬ ((vs.length : Nat) : Int) < (6 : Int) := fun z => w2 (decide_eq_true z)
    rw [if_neg (fun z => by have := z.2; omega)] at q0
    exact ⟨_, rfl, q0 W vs H1 b1 fW e1 p1 C1⟩
  have n2 : ((vs.length : Nat) : Int) < (6 : Int) := of_decide_eq_true w2
  rw [if_pos ⟨ee, by omega⟩] at q0
  refine ⟨fun σ' H' => ∃ (vs : List V) (acc : List (Str × Bool)) (j : Nat) (y : Option V), σ' = [some (.ref c.a), some (.ref W), y] ∧ 6 - acc.length < f ∧ acc.length ≤ 6 ∧ But c.a H H' ∧ CuX K T.C_Cursor H' c j ∧ H' W = some (.lst vs) ∧ Paired (OptV H') vs acc ∧ optsM c.ws f acc j = optsM c.ws 7 [] i, fun _ _ h => ⟨f, Nat.lt_succ_self f, h⟩, ?_⟩
  have ft : Fit (.word "option") "option" .non := ⟨rfl, rfl⟩
  refine ⟨_, rfl, c.a, dx, _, rfl, ha, cg_no cu_meths.2.1, c, j, "option", rfl, C1, by omega, ⟨fun x' v' e' f' H2 b2 C2 => ?_, fun no => absurd ft (no _ .non ee)⟩⟩
  obtain ⟨hle2, ⟨dx2, ha2⟩, _⟩ := id C2
  have e2 := b2 _ _ nWa e1
  have k2 := CuX.keepT C1 b2
  have p2 := L2.Paired.mapP p1 fun _ _ y => OptV.keep k2 y
  refine ⟨_, rfl, c.a, dx2, _, rfl, ha2, cg_no cu_meths.2.2.2.2, _, rfl, W, vs, acc.map (·.1), rfl, e2, OptV.nm p2, by rw [List.length_map]; omega, fun N H3 s3 nN e3 => ?_⟩
  refine ⟨c, N, acc.map (·.1), j + 1, rfl, C2.same s3, e3, by omega, hW, ⟨fun x v ex fx H4 b4 C4 => ?_, fun no d H4 s4 nd hd => ?_⟩⟩
  rotate_left
  · rw [freshM_none no] at q0
    exact q0 d H4 (b1.trans (b2.trans (but_of (s3.trans s4)))) hd
  obtain ⟨nx, fx, rfl⟩ := fx
  rw [freshM_some ex nx fx] at q0
  have C3 := C2.same s3
  have e4 := b4 _ _ nWa (s3 _ _ e2)
  have k4 := (keepT_of s3).trans (CuX.keepT C3 b4)
  obtain ⟨hle4, ⟨dx4, ha4⟩, _⟩ := id C4
  refine ⟨_, rfl, .inl ⟨rfl, _, SqL.of e4⟩, _, rfl, _, rfl, c.a, dx4, _, rfl, ha4, cg_no cu_meths.2.2.2.1, by show 2 ≤ sizeLine; decide, fun U fU => ?_⟩
  have sU := same_upd (o := .tup ((["on", "off"] : List Str).map V.str)) fU
  refine ⟨c, U, ["on", "off"], j + 1 + 1, rfl, C4.same sU, .inr (SqT.of upd_same), by omega, ⟨fun z v ez fz H5 b5 C5 => ?_, fun no d H5 s5 nd hd => ?_⟩⟩
  rotate_left
  · have q1 : HdK K T.C_Cursor T.C_BadText OptV H c (match nameM c.ws ["on", "off"] (j + 2) with
        | none => .bad (j + 2)
        | some y => optsM c.ws f (acc ++ [(x, decide (y = "on"))]) (j + 3)) Q E := q0
    rw [nameM_none no] at q1
    exact q1 d H5 (b1.trans (b2.trans ((but_of s3).trans (b4.trans (but_of (sU.trans s5)))))) hd
  obtain ⟨mz, rfl⟩ := fz
  have q1 : HdK K T.C_Cursor T.C_BadText OptV H c (match nameM c.ws ["on", "off"] (j + 2) with
      | none => .bad (j + 2)
      | some y => optsM c.ws f (acc ++ [(x, decide (y = "on"))]) (j + 3)) Q E := q0
  rw [nameM_some ez mz] at q1
  have dz : decide (V.str z = V.str "on") = decide (z = ("on" : Str)) := by
    by_cases h : z = ("on" : Str)
    · rw [decide_eq_true h, decide_eq_true (congrArg V.str h)]
    · rw [decide_eq_false h, decide_eq_false fun g => h (V.str.inj g)]
  refine ⟨rfl, by show 2 ≤ sizeLine; decide, fun Y fY => ?_⟩
  rw [dz]
  have sY := same_upd (o := .tup [V.str x, .bl (decide (z = ("on" : Str)))]) fY
  have e5 := sY _ _ (b5 _ _ nWa (sU _ _ e4))
  have k5 := (k4.trans (keepT_of sU)).trans ((CuX.keepT (C4.same sU) b5).trans (keepT_of sY))
  have kW : KeepT _ (upd (upd H5 Y (.tup [V.str x, .bl (decide (z = ("on" : Str)))])) W (.lst (vs ++ [.ref Y]))) := keepT_lst e5
  refine ⟨W, _, _, rfl, rfl, e5, small1000 (by omega), ?_⟩
  refine ⟨vs ++ [.ref Y], acc ++ [(x, decide (z = ("on" : Str)))], j + 3, _, rfl, ?_, ?_, ?_, ?_, upd_same, ?_, ?_⟩
  · rw [List.length_append]
    show 6 - (acc.length + 1) < f
    omega
  · rw [List.length_append]
    show acc.length + 1 ≤ 6
    omega
  · intro b o nb e
    rw [upd_ne (ne_of_none e fW)]
    exact sY _ _ (b5 _ _ nb (sU _ _ (b4 _ _ nb (s3 _ _ (b2 _ _ nb (b1 _ _ nb e))))))
  · exact CuX.butL (C5.same sY) e5 but_upd nWl.symm
  · have nY : Y ≠ W := (ne_of_none (b5 _ _ nWa (sU _ _ e4)) fY).symm
    exact paired_snocC (L2.Paired.mapP p2 fun _ _ y => OptV.keep (k5.trans kW) y) ⟨Y, rfl, by rw [upd_ne nY]; exact upd_same⟩
  · rw [← eq1]
    show _ = (if c.ws[j]? = some ("option" : Str) ∧ acc.length < 6 then (match freshM c.ws (acc.map (·.1)) (j + 1) with
      | none => HdR.bad (j + 1)
      | some x => match nameM c.ws ["on", "off"] (j + 2) with
        | none => HdR.bad (j + 2)
        | some y => optsM c.ws f (acc ++ [(x, decide (y = "on"))]) (j + 3))
      else HdR.ok acc j)
    rw [if_pos ⟨ee, by omega⟩, freshM_some ex nx fx]
    show _ = (match nameM c.ws ["on", "off"] (j + 2) with
      | none => HdR.bad (j + 2)
      | some y => optsM c.ws f (acc ++ [(x, decide (y = "on"))]) (j + 3))
    rw [nameM_some ez mz]
/-! ### _read_variables@x -/
def sp_read_variables_x (T : Txt K mg) : Sp := fun vs H Q E => ∃ (c : CuI) (i : Nat), vs = [.ref c.a] ∧ CuX K T.C_Cursor H c i ∧ Wds c.ws ∧ c.ws.length < 90000 ∧ HdK K T.C_Cursor T.C_BadText VarV H c (varsM c.ws 13 [] i) Q E

theorem ok_read_variables_x (T : Txt K mg) : FnOk P w K mg base (L2.CX P w) 6 T.a_read_variables T.d_read_variables ["cursor"] (sp_read_variables_x T) := by
  refine T.F_read_variables.okX sc_read_variables (fun vs H Q E h => ?_) (fun cdv A outer s H vs Q E hr h => ?_)
  · obtain ⟨c, i, rfl, _⟩ := h
    rfl
  obtain ⟨c, i, rfl, hC, hW, hl, q⟩ := h
  refine ⟨_, (pss_cons (ps_set (i := 1) sc_read_variables.nd rfl (by first | exact Or.inl rfl | exact Or.inr rfl) (pe_lst pa_nil))
      (pss_cons (ps_while (passes_of rfl) (PW.pt (pw_and (pt_cmpR op_eq (pe_prop (pv 0) T.cl_Cursor T.pr_Cursor_word (ok_Cursor_word T) (hr.mono (by decide)) T.b_Cursor_word .nil pass0 rfl) pe_str (nomark _)) (pw_and1 (pt_cmpR op_lt (pe_callB call_len_seq (by rfl) T.z_len (by first | exact PySem.boot_len | decide +kernel) (pa_cons (pv 1) pa_nil)) (pe_glob (by rfl) T.g_MOST_VARIABLES T.r_MOST_VARIABLES) (nomark _))))) (pss_cons (ps_expr (pe_methT (pv 0) T.cl_Cursor T.me_Cursor_take_word (ok_Cursor_take_word_x T) (hr.mono (by decide)) T.b_Cursor_take_word .nil (fun σ => passAt (takes_of rfl rfl rfl rfl) σ) (pa_cons pe_str pa_nil)))
      (pss_cons (ps_set (i := 2) sc_read_variables.nd rfl (by first | exact Or.inl rfl | exact Or.inr rfl) (pe_methT (pv 0) T.cl_Cursor T.me_Cursor_take_new_name (ok_Cursor_take_new_name_x T) (hr.mono (by decide)) T.b_Cursor_take_new_name .nil (fun σ => passAt (takes_of rfl rfl rfl rfl) σ) (pa_cons (pe_call (ok_names T) (hr.mono (by decide)) (by rfl) T.m_names T.F_names.kp T.b_names .nil pass0 (pa_cons (pv 1) pa_nil)) pa_nil)))
      (pss_one (ps_expr (pe_bm PySem.F.plainAttrs_list PySem.F.slot_list_append PySem.F.type_list_append mt_append (pv 1) (pa_cons (pe_tup (pa_cons (pv 2) (pa_cons (pe_methT (pv 0) T.cl_Cursor T.me_Cursor_take_number (ok_Cursor_take_number_x T) (hr.mono (by decide)) T.b_Cursor_take_number .nil (fun σ => passAt (takes_of rfl rfl rfl rfl) σ) (pa_cons pe_int (pa_cons (pe_glob (by rfl) T.g_GREATEST_NUMBER T.r_GREATEST_NUMBER) pa_nil))) pa_nil))) pa_nil)))))))
      (pss_one (ps_ret (pv 1))))), ?_⟩
  refine ⟨by show 0 ≤ sizeLine; decide, fun W fW => ?_⟩
  have sW := same_upd (o := .lst []) fW
  have nWa : W ≠ c.a := by
    obtain ⟨_, ⟨dx, ha⟩, _⟩ := hC
    exact (ne_of_none ha fW).symm
  have nWl : W ≠ c.wl := (ne_of_none hC.2.2.1 fW).symm
  refine ⟨fun m σ' H' => ∃ (vs : List V) (acc : List (Str × Int)) (j : Nat) (y : Option V), σ' = [some (.ref c.a), some (.ref W), y] ∧ 12 - acc.length < m ∧ acc.length ≤ 12 ∧ But c.a H H' ∧ CuX K T.C_Cursor H' c j ∧ H' W = some (.lst vs) ∧ Paired (VarV H') vs acc ∧ varsM c.ws m acc j = varsM c.ws 13 [] i, ⟨13, [], [], i, _, rfl, by decide, by decide, but_of sW, hC.same sW, upd_same, .nil, rfl⟩, ?_⟩
  rintro m σ1 H1 ⟨vs, acc, j, y, rfl, hm, l6, b1, C1, e1, p1, eq1⟩
  obtain ⟨f, rfl⟩ : ∃ f, m = f + 1 := ⟨m - 1, by omega⟩
  obtain ⟨hle, ⟨dx, ha⟩, hw, hz1, hz2⟩ := id C1
  rw [← eq1] at q
  have q0 : HdK K T.C_Cursor T.C_BadText VarV H c (if c.ws[j]? = some ("var" : Str) ∧ acc.length < 12 then (match freshM c.ws (acc.map (·.1)) (j + 1) with
      | none => .bad (j + 1)
      | some x => match numM c.ws 1 65535 (j + 2) with
        | none => .bad (j + 2)
        | some y => varsM c.ws f (acc ++ [(x, ((y : Nat) : Int))]) (j + 3))
    else .ok acc j) Q E := q
  have lv : vs.length = acc.length := paired_len p1
  refine ⟨_, rfl, c.a, dx, _, rfl, ha, c, j, rfl, C1, here_scal, _, rfl, ite2 (fun w1 => ?_) (fun w1 => ?_)⟩
  rotate_left
  · have ne : c.ws[j]? ≠ some ("var" : Str) := fun z => w1 (by rw [here_some' z]; exact decide_eq_true rfl)
    rw [if_neg (fun z => ne z.1)] at q0
    exact ⟨_, rfl, q0 W vs H1 b1 fW e1 p1 C1⟩
  have ye : hereV c.ws j = .str "var" := of_decide_eq_true w1
  have ee : c.ws[j]? = some ("var" : Str) := here_some ye
  refine ⟨_, rfl, W, _, rfl, .inl (SqL.of e1), _, _, rfl, rfl, _, rfl, ite2 (fun w2 => ?_) (fun w2 => ?_)⟩
  rotate_left
  · have n2 : ¬ ((vs.length : Nat) : Int) < (12 : Int) := fun z => w2 (decide_eq_true z)
    rw [if_neg (fun z => by have := z.2; omega)] at q0
    exact ⟨_, rfl, q0 W vs H1 b1 fW e1 p1 C1⟩
  have n2 : ((vs.length : Nat) : Int) < (12 : Int) := of_decide_eq_true w2
  rw [if_pos ⟨ee, by omega⟩] at q0
  refine ⟨fun σ' H' => ∃ (vs : List V) (acc : List (Str × Int)) (j : Nat) (y : Option V), σ' = [some (.ref c.a), some (.ref W), y] ∧ 12 - acc.length < f ∧ acc.length ≤ 12 ∧ But c.a H H' ∧ CuX K T.C_Cursor H' c j ∧ H' W = some (.lst vs) ∧ Paired (VarV H') vs acc ∧ varsM c.ws f acc j = varsM c.ws 13 [] i, fun _ _ h => ⟨f, Nat.lt_succ_self f, h⟩, ?_⟩
  have ft : Fit (.word "var") "var" .non := ⟨rfl, rfl⟩
  refine ⟨_, rfl, c.a, dx, _, rfl, ha, cg_no cu_meths.2.1, c, j, "var", rfl, C1, by omega, ⟨fun x' v' e' f' H2 b2 C2 => ?_, fun no => absurd ft (no _ .non ee)⟩⟩
  obtain ⟨hle2, ⟨dx2, ha2⟩, _⟩ := id C2
  have e2 := b2 _ _ nWa e1
  have k2 := CuX.keepT C1 b2
  have p2 := L2.Paired.mapP p1 fun _ _ y => VarV.keep k2 y
  refine ⟨_, rfl, c.a, dx2, _, rfl, ha2, cg_no cu_meths.2.2.2.2, _, rfl, W, vs, acc.map (·.1), rfl, e2, VarV.nm p2, by rw [List.length_map]; omega, fun N H3 s3 nN e3 => ?_⟩
  refine ⟨c, N, acc.map (·.1), j + 1, rfl, C2.same s3, e3, by omega, hW, ⟨fun x v ex fx H4 b4 C4 => ?_, fun no d H4 s4 nd hd => ?_⟩⟩
  rotate_left
  · rw [freshM_none no] at q0
    exact q0 d H4 (b1.trans (b2.trans (but_of (s3.trans s4)))) hd
  obtain ⟨nx, fx, rfl⟩ := fx
  rw [freshM_some ex nx fx] at q0
  have C3 := C2.same s3
  have e4 := b4 _ _ nWa (s3 _ _ e2)
  have k4 := (keepT_of s3).trans (CuX.keepT C3 b4)
  obtain ⟨hle4, ⟨dx4, ha4⟩, _⟩ := id C4
  refine ⟨_, rfl, .inl ⟨rfl, _, SqL.of e4⟩, _, rfl, _, rfl, c.a, dx4, _, rfl, ha4, cg_no cu_meths.2.2.1, c, j + 1 + 1, 1, 65535, rfl, C4, by omega, hW, ⟨fun z v ez fz H5 b5 C5 => ?_, fun no d H5 s5 nd hd => ?_⟩⟩
  rotate_left
  · have q1 : HdK K T.C_Cursor T.C_BadText VarV H c (match numM c.ws 1 65535 (j + 2) with
        | none => .bad (j + 2)
        | some y => varsM c.ws f (acc ++ [(x, ((y : Nat) : Int))]) (j + 3)) Q E := q0
    rw [numM_none no] at q1
    exact q1 d H5 (b1.trans (b2.trans ((but_of s3).trans (b4.trans (but_of s5))))) hd
  obtain ⟨n, n1, n2', n3, n4, rfl⟩ := fz
  have q1 : HdK K T.C_Cursor T.C_BadText VarV H c (match numM c.ws 1 65535 (j + 2) with
      | none => .bad (j + 2)
      | some y => varsM c.ws f (acc ++ [(x, ((y : Nat) : Int))]) (j + 3)) Q E := q0
  rw [numM_some ez n1 n2' ⟨by omega, by omega⟩] at q1
  refine ⟨by show 2 ≤ sizeLine; decide, fun Y fY => ?_⟩
  have sY := same_upd (o := .tup [V.str x, .int (n : Nat)]) fY
  have e5 := sY _ _ (b5 _ _ nWa e4)
  have k5 := k4.trans ((CuX.keepT C4 b5).trans (keepT_of sY))
  have kW : KeepT _ (upd (upd H5 Y (.tup [V.str x, .int (n : Nat)])) W (.lst (vs ++ [.ref Y]))) := keepT_lst e5
  refine ⟨W, _, _, rfl, rfl, e5, small1000 (by omega), ?_⟩
  refine ⟨vs ++ [.ref Y], acc ++ [(x, ((n : Nat) : Int))], j + 3, _, rfl, ?_, ?_, ?_, ?_, upd_same, ?_, ?_⟩
  · rw [List.length_append]
    show 12 - (acc.length + 1) < f
    omega
  · rw [List.length_append]
    show acc.length + 1 ≤ 12
    omega
  · intro b o nb e
    rw [upd_ne (ne_of_none e fW)]
    exact sY _ _ (b5 _ _ nb (b4 _ _ nb (s3 _ _ (b2 _ _ nb (b1 _ _ nb e)))))
  · exact CuX.butL (C5.same sY) e5 but_upd nWl.symm
  · have nY : Y ≠ W := (ne_of_none (b5 _ _ nWa e4) fY).symm
    exact paired_snocC (L2.Paired.mapP p2 fun _ _ y => VarV.keep (k5.trans kW) y) ⟨Y, rfl, by rw [upd_ne nY]; exact upd_same⟩
  · rw [← eq1]
    show _ = (if c.ws[j]? = some ("var" : Str) ∧ acc.length < 12 then (match freshM c.ws (acc.map (·.1)) (j + 1) with
      | none => HdR.bad (j + 1)
      | some x => match numM c.ws 1 65535 (j + 2) with
        | none => HdR.bad (j + 2)
        | some y => varsM c.ws f (acc ++ [(x, ((y : Nat) : Int))]) (j + 3))
      else HdR.ok acc j)
    rw [if_pos ⟨ee, by omega⟩, freshM_some ex nx fx]
    show _ = (match numM c.ws 1 65535 (j + 2) with
      | none => HdR.bad (j + 2)
      | some y => varsM c.ws f (acc ++ [(x, ((y : Nat) : Int))]) (j + 3))
    rw [numM_some ez n1 n2' ⟨by omega, by omega⟩]
/-! ### _read_rounds@x -/
def sp_read_rounds_x (T : Txt K mg) : Sp := fun vs H Q E => ∃ (c : CuI) (i : Nat), vs = [.ref c.a] ∧ CuX K T.C_Cursor H c i ∧ CuOk c ∧ HdK K T.C_Cursor T.C_BadText (RndV K) H c (rndsM c 9 [] i (0, 0)) Q E

theorem ok_read_rounds_x (T : Txt K mg) : FnOk P w K mg base (L2.CX P w) 59 T.a_read_rounds T.d_read_rounds ["cursor"] (sp_read_rounds_x T) := by
  refine T.F_read_rounds.okX sc_read_rounds (fun vs H Q E h => ?_) (fun cdv A outer s H vs Q E hr h => ?_)
  · obtain ⟨c, i, rfl, _⟩ := h
    rfl
  obtain ⟨c, i, rfl, hC, hok, q⟩ := h
  refine ⟨_, (pss_cons (ps_set (i := 1) sc_read_rounds.nd rfl (by first | exact Or.inl rfl | exact Or.inr rfl) (pe_lst pa_nil))
      (pss_cons (ps_set (i := 2) sc_read_rounds.nd rfl (by first | exact Or.inl rfl | exact Or.inr rfl) (pe_make T.mk_BlockReader (ok_BlockReader_init T) (hr.mono (by decide)) (by rfl) T.m_BlockReader T.b_BlockReader_init .nil pass0 (pa_cons (pv 0) pa_nil)))
      (pss_cons (ps_while (passes_of rfl) (PW.pt (pw_and (pt_cmpR op_eq (pe_prop (pv 0) T.cl_Cursor T.pr_Cursor_word (ok_Cursor_word T) (hr.mono (by decide)) T.b_Cursor_word .nil pass0 rfl) pe_str (nomark _)) (pw_and1 (pt_cmpR op_lt (pe_callB call_len_seq (by rfl) T.z_len (by first | exact PySem.boot_len | decide +kernel) (pa_cons (pv 1) pa_nil)) (pe_glob (by rfl) T.g_MOST_ROUNDS T.r_MOST_ROUNDS) (nomark _))))) (pss_cons (ps_expr (pe_methT (pv 0) T.cl_Cursor T.me_Cursor_take_word (ok_Cursor_take_word_x T) (hr.mono (by decide)) T.b_Cursor_take_word .nil (fun σ => passAt (takes_of rfl rfl rfl rfl) σ) (pa_cons pe_str pa_nil)))
      (pss_cons (ps_set (i := 3) sc_read_rounds.nd rfl (by first | exact Or.inl rfl | exact Or.inr rfl) (pe_methT (pv 0) T.cl_Cursor T.me_Cursor_take_new_name (ok_Cursor_take_new_name_x T) (hr.mono (by decide)) T.b_Cursor_take_new_name .nil (fun σ => passAt (takes_of rfl rfl rfl rfl) σ) (pa_cons (pe_call (ok_names T) (hr.mono (by decide)) (by rfl) T.m_names T.F_names.kp T.b_names .nil pass0 (pa_cons (pv 1) pa_nil)) pa_nil)))
      (pss_cons (ps_expr (pe_bm PySem.F.plainAttrs_list PySem.F.slot_list_append PySem.F.type_list_append mt_append (pv 1) (pa_cons (pe_tup (pa_cons (pv 3) (pa_cons (pe_methT (pv 2) T.cl_BlockReader T.me_BlockReader_read_block (ok_BlockReader_read_block_x T 9) (hr.mono (by decide)) T.b_BlockReader_read_block .nil (fun σ => passAt (takes_of rfl rfl rfl rfl) σ) (pa_cons pe_int pa_nil)) pa_nil))) pa_nil)))
      (pss_one (ps_expr (pe_methT (pv 0) T.cl_Cursor T.me_Cursor_take_word (ok_Cursor_take_word_x T) (hr.mono (by decide)) T.b_Cursor_take_word .nil (fun σ => passAt (takes_of rfl rfl rfl rfl) σ) (pa_cons pe_str pa_nil))))))))
      (pss_one (ps_ret (pv 1)))))), ?_⟩
  have hW := hok.w
  have hl := hok.l
  refine ⟨by show 0 ≤ sizeLine; decide, fun W fW => ?_⟩
  have sW := same_upd (o := .lst []) fW
  have nWa : W ≠ c.a := by
    obtain ⟨_, ⟨dx, ha⟩, _⟩ := hC
    exact (ne_of_none ha fW).symm
  have nWl : W ≠ c.wl := (ne_of_none hC.2.2.1 fW).symm
  have CW := hC.same sW
  have eW := upd_same (H := H) (a := W) (o := .lst [])
  revert sW CW eW
  generalize upd H W (.lst []) = H0
  intro sW CW eW
  refine ⟨_, rfl, fun r dr nr nd ne => ⟨r, dr, c.a, rfl, upd_same, fun H1 b1 hR => ⟨rfl, ?_⟩⟩⟩
  have nrH : H r = none := none_back sW nr
  have s1 : Same H0 H1 := fun b o e => b1 b o (ne_of_none e nr) (by rw [upd_ne (ne_of_none e nr), upd_ne (ne_of_none e nd)]; exact e)
  have nar : c.a ≠ r := by
    obtain ⟨_, ⟨dx, ha⟩, _⟩ := CW
    exact ne_of_none ha nr
  have nWr : W ≠ r := ne_of_none eW nr
  have R1 : RdS K T.C_Cursor T.C_BlockReader H1 c r i (0, 0) := ⟨CW.same s1, hR, nar⟩
  have keep : ∀ {H' : Hp}, But2 c.a r H H' → But c.a H H' := fun b d o n e => b d o n (ne_of_none e nrH) e
  refine ⟨fun m σ' H' => ∃ (vs : List V) (acc : List (Str × List St)) (j : Nat) (st : Nat × Nat) (y : Option V), σ' = [some (.ref c.a), some (.ref W), some (.ref r), y] ∧ 8 - acc.length < m ∧ acc.length ≤ 8 ∧ But2 c.a r H H' ∧ RdS K T.C_Cursor T.C_BlockReader H' c r j st ∧ H' W = some (.lst vs) ∧ Paired (RndV K H') vs acc ∧ rndsM c m acc j st = rndsM c 9 [] i (0, 0), ⟨9, [], [], i, (0, 0), _, rfl, by decide, by decide, but2_s (sW.trans s1), R1, s1 _ _ eW, .nil, rfl⟩, ?_⟩
  clear hR b1 R1 s1 nd ne CW eW
  rintro m σ1 H1 ⟨vs, acc, j, st, y, rfl, hm, l8, b1, R1, e1, p1, eq1⟩
  obtain ⟨f, rfl⟩ : ∃ f, m = f + 1 := ⟨m - 1, by omega⟩
  have C1 := R1.cu
  obtain ⟨hle, ⟨dx, ha⟩, hw, hz1, hz2⟩ := id C1
  rw [← eq1] at q
  have q0 : HdK K T.C_Cursor T.C_BadText (RndV K) H c (if c.ws[j]? = some ("round" : Str) ∧ acc.length < 8 then (match freshM c.ws (acc.map (·.1)) (j + 1) with
      | none => .bad (j + 1)
      | some x => match blockM c 8 (j + 2) st with
        | .bad j => .bad j
        | .ok ss j st' => if c.ws[j]? = some ("end" : Str) then rndsM c f (acc ++ [(x, ss)]) (j + 1) st' else .bad j)
    else .ok acc j) Q E := q
  have lv : vs.length = acc.length := paired_len p1
  refine ⟨_, rfl, c.a, dx, _, rfl, ha, c, j, rfl, C1, here_scal, _, rfl, ite2 (fun w1 => ?_) (fun w1 => ?_)⟩
  rotate_left
  · have ne : c.ws[j]? ≠ some ("round" : Str) := fun z => w1 (by rw [here_some' z]; exact decide_eq_true rfl)
    rw [if_neg (fun z => ne z.1)] at q0
    exact ⟨_, rfl, q0 W vs H1 (keep b1) fW e1 p1 C1⟩
  have ye : hereV c.ws j = .str "round" := of_decide_eq_true w1
  have ee : c.ws[j]? = some ("round" : Str) := here_some ye
  refine ⟨_, rfl, W, _, rfl, .inl (SqL.of e1), _, _, rfl, rfl, _, rfl, ite2 (fun w2 => ?_) (fun w2 => ?_)⟩
  rotate_left
  · have n2 : ¬ ((vs.length : Nat) : Int) < (8 : Int) := fun z => w2 (decide_eq_true z)
    rw [if_neg (fun z => by have := z.2; omega)] at q0
    exact ⟨_, rfl, q0 W vs H1 (keep b1) fW e1 p1 C1⟩
  have n2 : ((vs.length : Nat) : Int) < (8 : Int) := of_decide_eq_true w2
  rw [if_pos ⟨ee, by omega⟩] at q0
  refine ⟨fun σ' H' => ∃ (vs : List V) (acc : List (Str × List St)) (j : Nat) (st : Nat × Nat) (y : Option V), σ' = [some (.ref c.a), some (.ref W), some (.ref r), y] ∧ 8 - acc.length < f ∧ acc.length ≤ 8 ∧ But2 c.a r H H' ∧ RdS K T.C_Cursor T.C_BlockReader H' c r j st ∧ H' W = some (.lst vs) ∧ Paired (RndV K H') vs acc ∧ rndsM c f acc j st = rndsM c 9 [] i (0, 0), fun _ _ h => ⟨f, Nat.lt_succ_self f, h⟩, ?_⟩
  have ft : Fit (.word "round") "round" .non := ⟨rfl, rfl⟩
  refine ⟨_, rfl, c.a, dx, _, rfl, ha, cg_no cu_meths.2.1, c, j, "round", rfl, C1, by omega, ⟨fun x' v' e' f' H2 b2 C2 => ?_, fun no => absurd ft (no _ .non ee)⟩⟩
  have R2 := R1.moved b2 C2
  obtain ⟨hle2, ⟨dx2, ha2⟩, _⟩ := id C2
  have e2 := b2 _ _ nWa e1
  have k2 := CuX.keepT C1 b2
  have p2 := L2.Paired.mapP p1 fun _ _ y => RndV.keep k2 y
  refine ⟨_, rfl, c.a, dx2, _, rfl, ha2, cg_no cu_meths.2.2.2.2, _, rfl, W, vs, acc.map (·.1), rfl, e2, RndV.nm p2, by rw [List.length_map]; omega, fun N H3 s3 nN e3 => ?_⟩
  have C3 := C2.same s3
  refine ⟨c, N, acc.map (·.1), j + 1, rfl, C3, e3, by omega, hW, ⟨fun x v ex fx H4 b4 C4 => ?_, fun no d H4 s4 nd hd => ?_⟩⟩
  rotate_left
  · rw [freshM_none no] at q0
    exact q0 d H4 (keep (b1.trans ((but2_l b2).trans (but2_s (s3.trans s4))))) hd
  obtain ⟨nx, fx, rfl⟩ := fx
  have q1 : HdK K T.C_Cursor T.C_BadText (RndV K) H c (match blockM c 8 (j + 2) st with
        | .bad j => .bad j
        | .ok ss j st' => if c.ws[j]? = some ("end" : Str) then rndsM c f (acc ++ [(x, ss)]) (j + 1) st' else .bad j) Q E := by
    rw [freshM_some ex nx fx] at q0
    exact q0
  have R4 := (R2.same s3).moved b4 C4
  have e4 := b4 _ _ nWa (s3 _ _ e2)
  have k4 := (keepT_of s3).trans (CuX.keepT C3 b4)
  have b14 := b1.trans ((but2_l b2).trans ((but2_s s3).trans (but2_l b4)))
  obtain ⟨_, ⟨dr4, hr4⟩, _⟩ := id R4
  refine ⟨_, rfl, .inl ⟨rfl, _, SqL.of e4⟩, _, rfl, _, rfl, r, dr4, _, rfl, hr4, rd_no rd_meths.1, c, r, j + 1 + 1, 8, st, rfl, by decide, by decide, R4, hok, ?_⟩
  cases es : blockM c 8 (j + 1 + 1) st with
  | bad j' =>
    have es' : blockM c 8 (j + 2) st = .bad j' := es
    rw [es'] at q1
    exact fun d H5 b5 hd => q1 d H5 (keep (b14.trans b5)) hd
  | ok ss j5 st5 =>
    have es' : blockM c 8 (j + 2) st = .ok ss j5 st5 := es
    rw [es'] at q1
    replace q1 : HdK K T.C_Cursor T.C_BadText (RndV K) H c (if c.ws[j5]? = some ("end" : Str) then rndsM c f (acc ++ [(x, ss)]) (j5 + 1) st5 else .bad j5) Q E := q1
    refine fun p5 vs5 H5 b5 e5 bv5 R5 => ⟨by show 2 ≤ sizeLine; decide, fun Y fY => ?_⟩
    have sY := same_upd (o := .tup [V.str x, .ref p5]) fY
    have eW5 := sY _ _ (b5 _ _ nWa nWr e4)
    have nY : Y ≠ W := (ne_of_none (b5 _ _ nWa nWr e4) fY).symm
    refine ⟨W, _, _, rfl, rfl, eW5, small1000 (by omega), ?_⟩
    generalize eH6 : upd (upd H5 Y (.tup [V.str x, .ref p5])) W (.lst (vs ++ [.ref Y])) = H6
    have kW : KeepT (upd H5 Y (.tup [V.str x, .ref p5])) H6 := eH6 ▸ keepT_lst eW5
    have bW : But W (upd H5 Y (.tup [V.str x, .ref p5])) H6 := eH6 ▸ but_upd
    have eW6 : H6 W = some (.lst (vs ++ [.ref Y])) := eH6 ▸ upd_same
    clear eH6
    have k56 := (keepT_of sY).trans kW
    have kAll := k4.trans ((R4.keepT b5).trans k56)
    have p6 : Paired (RndV K H6) (vs ++ [.ref Y]) (acc ++ [(x, ss)]) := paired_snocC (L2.Paired.mapP p2 fun _ _ y => RndV.keep kAll y) ⟨Y, p5, vs5, rfl, kW _ _ upd_same, k56 _ _ e5, bv5.keep k56⟩
    have R5' := R5.same sY
    obtain ⟨_, ⟨dr5, hr5⟩, _⟩ := id R5'
    have R6 : RdS K T.C_Cursor T.C_BlockReader H6 c r j5 st5 := ⟨CuX.butL R5'.cu eW5 bW nWl.symm, ⟨dr5, bW _ _ nWr.symm hr5⟩, nar⟩
    have b16 : But2 c.a r H H6 := fun b o n1 n2 e => bW _ _ (ne_of_none e fW) (sY _ _ (b5 _ _ n1 n2 (b14 _ _ n1 n2 e)))
    obtain ⟨⟨hle6, ⟨dx6, ha6⟩, _⟩, _, _⟩ := id R6
    have fe : Fit (.word "end") "end" .non := ⟨rfl, rfl⟩
    refine ⟨_, rfl, c.a, dx6, _, rfl, ha6, cg_no cu_meths.2.1, c, j5, "end", rfl, R6.cu, by omega, ⟨fun x' v' e6 f6 H7 b7 C7 => ?_, fun no d H7 s7 nd hd => ?_⟩⟩
    · obtain ⟨rfl, rfl⟩ := f6
      have k7 := CuX.keepT R6.cu b7
      refine ⟨vs ++ [.ref Y], acc ++ [(x, ss)], j5 + 1, st5, _, rfl, ?_, ?_, b16.trans (but2_l b7), R6.moved b7 C7, b7 _ _ nWa eW6, L2.Paired.mapP p6 fun _ _ y => RndV.keep k7 y, ?_⟩
      · rw [List.length_append]
        show 8 - (acc.length + 1) < f
        omega
      · rw [List.length_append]
        show acc.length + 1 ≤ 8
        omega
      · rw [← eq1]
        show _ = (if c.ws[j]? = some ("round" : Str) ∧ acc.length < 8 then (match freshM c.ws (acc.map (·.1)) (j + 1) with
          | none => HdR.bad (j + 1)
          | some x => match blockM c 8 (j + 2) st with
            | .bad j => HdR.bad j
            | .ok ss j st' => if c.ws[j]? = some ("end" : Str) then rndsM c f (acc ++ [(x, ss)]) (j + 1) st' else HdR.bad j)
          else HdR.ok acc j)
        rw [if_pos ⟨ee, by omega⟩, freshM_some ex nx fx]
        show _ = (match blockM c 8 (j + 2) st with
            | .bad j => HdR.bad j
            | .ok ss j st' => if c.ws[j]? = some ("end" : Str) then rndsM c f (acc ++ [(x, ss)]) (j + 1) st' else HdR.bad j)
        rw [es']
        show _ = (if c.ws[j5]? = some ("end" : Str) then rndsM c f (acc ++ [(x, ss)]) (j5 + 1) st5 else HdR.bad j5)
        rw [if_pos e6]
    · rw [if_neg (fun z => no _ .non z fe)] at q1
      exact q1 d H7 (keep (b16.trans (but2_s s7))) hd
/-! ### read_game@x -/
def sp_read_game_x (T : Txt K mg) : Sp := fun vs H Q E => ∃ (x : Str) (ws : List Str), vs = [.str x] ∧ x.length ≤ 1000000 ∧ Parts ws x ∧ Wds ws ∧ ws.length < 90000 ∧ GmK K T.C_Game T.C_BadText H ws Q E

theorem ok_read_game_x (T : Txt K mg) : FnOk P w K mg base (L2.CX P w) 60 T.a_read_game T.d_read_game ["text"] (sp_read_game_x T) := by
  refine T.F_read_game.okX sc_read_game (fun vs H Q E h => ?_) (fun cdv A outer s H vs Q E hr h => ?_)
  · obtain ⟨x, ws, rfl, _⟩ := h
    rfl
  obtain ⟨x, ws, rfl, lx, hP, hW, hl, q⟩ := h
  refine ⟨_, (pss_cons (ps_set (i := 1) sc_read_game.nd rfl (by first | exact Or.inl rfl | exact Or.inr rfl) (pe_call (ok_split_words T) (hr.mono (by decide)) (by rfl) T.m_split_words T.F_split_words.kp T.b_split_words .nil pass0 (pa_cons (pv 0) pa_nil)))
      (pss_cons (ps_set (i := 2) sc_read_game.nd rfl (by first | exact Or.inl rfl | exact Or.inr rfl) (pe_make T.mk_Cursor (ok_Cursor_init T) (hr.mono (by decide)) (by rfl) T.m_Cursor T.bd_Cursor_init T.v_Cursor_init pass0 (pa_cons (pv 1) pa_nil)))
      (pss_cons (ps_set (i := 3) sc_read_game.nd rfl (by first | exact Or.inl rfl | exact Or.inr rfl) (pe_callSD (ok_read_options_x T) (hr.mono (by decide)) (by rfl) T.m_read_options T.F_read_options.kp T.b_read_options .nil (fun σ => passAt (takes_of rfl rfl rfl rfl) σ) (pa_cons (pv 2) pa_nil)))
      (pss_cons (ps_set (i := 4) sc_read_game.nd rfl (by first | exact Or.inl rfl | exact Or.inr rfl) (pe_callSD (ok_read_variables_x T) (hr.mono (by decide)) (by rfl) T.m_read_variables T.F_read_variables.kp T.b_read_variables .nil (fun σ => passAt (takes_of rfl rfl rfl rfl) σ) (pa_cons (pv 2) pa_nil)))
      (pss_cons (ps_set (i := 5) sc_read_game.nd rfl (by first | exact Or.inl rfl | exact Or.inr rfl) (pe_makeK T.mk_Cursor (ok_Cursor_init T) (hr.mono (by decide)) (by rfl) T.m_Cursor T.kb_Cursor_init_options_variables pass0 (pa_cons (pv 1) pa_nil) (pk_cons (pe_call (ok_names T) (hr.mono (by decide)) (by rfl) T.m_names T.F_names.kp T.b_names .nil pass0 (pa_cons (pv 3) pa_nil)) (pk_cons (pe_call (ok_names T) (hr.mono (by decide)) (by rfl) T.m_names T.F_names.kp T.b_names .nil pass0 (pa_cons (pv 4) pa_nil)) pk_nil))))
      (pss_cons (ps_fld (pv 5) (pe_fld (pv 2) rfl) rfl)
      (pss_cons (ps_set (i := 6) sc_read_game.nd rfl (by first | exact Or.inl rfl | exact Or.inr rfl) (pe_callSD (ok_read_rounds_x T) (hr.mono (by decide)) (by rfl) T.m_read_rounds T.F_read_rounds.kp T.b_read_rounds .nil (fun σ => passAt (takes_of rfl rfl rfl rfl) σ) (pa_cons (pv 5) pa_nil)))
      (pss_cons (ps_if (pt_cmpR op_notN (pe_prop (pv 5) T.cl_Cursor T.pr_Cursor_word (ok_Cursor_word T) (hr.mono (by decide)) T.b_Cursor_word .nil pass0 rfl) pe_non (nomark _)) (pss_one (ps_raise rfl (takes_of rfl rfl rfl rfl) (pmk_oex T.e_BadText.ox T.e_BadText.ini T.e_BadText.ty (ok_BadText_init T) (hr.mono (by decide)) T.b_BadText_init .nil pass0 (by rfl) T.m_BadText (pa_cons (pe_fld (pv 5) rfl) pa_nil)))) pss_nil)
      (pss_one (ps_ret (pe_make T.mk_Game (ok_Game_init T) (hr.mono (by decide)) (by rfl) T.m_Game T.b_Game_init .nil pass0 (pa_cons (pv 3) (pa_cons (pv 4) (pa_cons (pv 6) pa_nil)))))))))))))), ?_⟩
  refine ⟨_, rfl, x, rfl, lx, fun p H1 ws' s1 np hP' e1 => ?_⟩
  obtain rfl := parts_uniq hP' hP
  refine ⟨_, rfl, fun h dh nh ndh neh => ?_⟩
  have s2' : Same H1 (upd (upd H1 dh (.own h)) h (.ins T.C_Cursor dh [])) := fun b o e => by rw [upd_ne (ne_of_none e nh), upd_ne (ne_of_none e ndh)]; exact e
  refine ⟨h, dh, p, _, _, ws', [], [], false, rfl, upd_same, s2' _ _ e1, .inr (T.qzk_Cursor_init_0 _), .inr (T.qzk_Cursor_init_1 _), fun hc H2 b2 a1 a2 a3 a4 a5 f1 C2 => ⟨rfl, ?_⟩⟩
  have s2 : Same H1 H2 := fun b o e => b2 b o (ne_of_none e nh) (s2' _ _ e)
  have s12 := s1.trans s2
  have nhH : H h = none := none_back s1 nh
  have e2 := s2 _ _ e1
  obtain ⟨ha', hwl, hz1, hz2, hops, hvars, hws, hse⟩ := hc
  cases a1
  cases a2
  cases a3
  cases a4
  cases a5
  clear b2 s2' ndh neh f1
  have kp : ∀ {H' : Hp}, But ha' H2 H' → Same H H' := fun b d o e => b d o (ne_of_none e nhH) (s12 _ _ e)
  unfold GmK at q
  refine ⟨_, rfl, ⟨ha', hwl, hz1, hz2, [], [], hws, false⟩, 0, rfl, C2, hW, hl, ?_⟩
  cases eo : optsM hws 7 [] 0 with
  | bad j =>
    rw [eo] at q
    exact fun d H' b hd => q d H' (kp b) hd
  | ok os j =>
    rw [eo] at q
    replace q : (match varsM hws 13 [] j with
      | .bad j => ∀ d H', Same H H' → H' d = some (.xd [("at", .int (j : Nat))]) → E (.ref T.C_BadText) (some d) H'
      | .ok us j => ∀ c, Cur c hws os us → match rndsM c 9 [] j (0, 0) with
        | .bad j => ∀ d H', Same H H' → H' d = some (.xd [("at", .int (j : Nat))]) → E (.ref T.C_BadText) (some d) H'
        | .ok rs j => (hws[j]? = none → ∀ g H', Same H H' → H g = none → GameS K T.C_Game H' g os us rs → Q (.ref g) H') ∧
          (hws[j]? ≠ none → ∀ d H', Same H H' → H' d = some (.xd [("at", .int (j : Nat))]) → E (.ref T.C_BadText) (some d) H')) := q
    refine fun po ov H3 b3 fpo e3 p3 C3 => ?_
    refine ⟨_, rfl, ⟨ha', hwl, hz1, hz2, [], [], hws, false⟩, j, rfl, C3, hW, hl, ?_⟩
    cases eu : varsM hws 13 [] j with
    | bad j2 =>
      rw [eu] at q
      exact fun d H' b hd => q d H' (kp (b3.trans b)) hd
    | ok us j2 =>
      rw [eu] at q
      refine fun pu uv H4 b4 fpu e4 p4 C4 => ?_
      obtain ⟨no, lo⟩ := optsM_names _ _ _ _ _ eo (fun _ m => by cases m) (by decide)
      obtain ⟨nu, lu⟩ := varsM_names _ _ _ _ _ eu (fun _ m => by cases m) (by decide)
      have npo : po ≠ ha' := by
        obtain ⟨_, ⟨dx, a⟩, _⟩ := C2
        exact (ne_of_none a fpo).symm
      have k4 : KeepT H3 H4 := CuX.keepT C3 b4
      have eo4 := b4 _ _ npo e3
      have po4 := L2.Paired.mapP p3 fun _ _ y => OptV.keep k4 y
      have e24 : H4 p = some (.lst (hws.map V.str)) := by
        have np' : p ≠ ha' := by
          obtain ⟨_, ⟨dx, a⟩, _⟩ := C2
          exact fun z => by rw [z, a] at e2; cases e2
        exact b4 _ _ np' (b3 _ _ np' e2)
      have s4 : Same H H4 := kp (b3.trans b4)
      clear C2 C3 b3 b4 e3 p3 k4 e2 fpo fpu
      refine ⟨_, rfl, _, rfl, po, ov, os.map (·.1), rfl, eo4, OptV.nm po4, by rw [List.length_map]; omega, fun N1 H5 s5 n5 e5 => ?_⟩
      refine ⟨_, rfl, pu, uv, us.map (·.1), rfl, s5 _ _ e4, VarV.nm (L2.Paired.mapP p4 fun _ _ y => VarV.keep (keepT_of s5) y), by rw [List.length_map]; omega, fun N2 H6 s6 n6 e6 => ⟨rfl, rfl, fun x dx nx nd ne => ?_⟩⟩
      have s67 : Same H6 (upd (upd H6 dx (.own x)) x (.ins T.C_Cursor dx [])) := fun b o e => by rw [upd_ne (ne_of_none e nx), upd_ne (ne_of_none e nd)]; exact e
      have s46 := s5.trans s6
      refine ⟨x, dx, p, N1, N2, hws, os.map (·.1), us.map (·.1), false, rfl, upd_same, s67 _ _ (s46 _ _ e24), .inl (SqL.of (s67 _ _ (s6 _ _ e5))), .inl (SqL.of (s67 _ _ e6)), fun cc H7 b7 a1 a2 a3 a4 a5 f7 C7 => ⟨rfl, ?_⟩⟩
      have s47 : Same H4 H7 := fun b o e => b7 b o (ne_of_none (s46 _ _ e) nx) (s67 _ _ (s46 _ _ e))
      obtain ⟨cx, cwl, cz1, cz2, cops, cvars, cws, cse⟩ := cc
      cases a1
      cases a2
      cases a3
      cases a4
      cases a5
      obtain ⟨hleh, ⟨dxh, hah⟩, _⟩ := id (C4.same s47)
      obtain ⟨hlec, ⟨dxc, hac⟩, hwc, hz1c, hz2c⟩ := id C7
      refine ⟨_, rfl, ha', T.C_Cursor, dxh, _, _, rfl, hah, T.cl_Cursor, T.n_Cursor_at, lk_ix cgNd 4 rfl, _, rfl, cx, T.C_Cursor, dxc, _, rfl, hac, T.cl_Cursor, T.n_Cursor_at, by show 5 < 1000; decide, ?_⟩
      rw [pf_ix cgNd 4 rfl]
      generalize eH8 : upd H7 cx _ = H8
      have b8 : But cx H7 H8 := eH8 ▸ but_upd
      have hx8 : H8 cx = some (.ins T.C_Cursor dxc (cuG cwl cz1 cz2 false (j2 : Nat))) := by
        rw [← eH8, upd_same]
        rfl
      clear eH8
      have nwx : cwl ≠ cx := fun z => by
        have hwc' : H7 cwl = some (.lst (cws.map V.str)) := hwc
        rw [z] at hwc'
        rw [show H7 cx = some (.ins T.C_Cursor dxc _) from hac] at hwc'
        cases hwc'
      have C8 : CuX K T.C_Cursor H8 ⟨cx, cwl, cz1, cz2, os.map (·.1), us.map (·.1), cws, false⟩ j2 := ⟨hleh, ⟨dxc, hx8⟩, b8 _ _ nwx hwc, sqT_ins hz1c hac b8, sqT_ins hz2c hac b8⟩
      have nxH4 : H4 cx = none := none_back s46 nx
      have kq : ∀ {H' : Hp}, But cx H7 H' → Same H4 H' := fun b d o e => b d o (ne_of_none e nxH4) (s47 _ _ e)
      have okc : CuOk ⟨cx, cwl, cz1, cz2, os.map (·.1), us.map (·.1), cws, false⟩ := ⟨hW, hl, fun y m => asc_ok' (hW y (nu y m)).1, fun y m => asc_ok' (hW y (no y m)).1⟩
      have q1 := q ⟨cx, cwl, cz1, cz2, os.map (·.1), us.map (·.1), cws, false⟩ ⟨rfl, rfl, rfl, rfl⟩
      refine ⟨_, rfl, ⟨cx, cwl, cz1, cz2, os.map (·.1), us.map (·.1), cws, false⟩, j2, rfl, C8, okc, ?_⟩
      cases er : rndsM ⟨cx, cwl, cz1, cz2, os.map (·.1), us.map (·.1), cws, false⟩ 9 [] j2 (0, 0) with
      | bad j3 =>
        rw [er] at q1
        exact fun d H' b hd => q1 d H' (s4.trans (kq (b8.trans b))) hd
      | ok rs j3 =>
        rw [er] at q1
        obtain ⟨q2, q3⟩ := q1
        refine fun p9 rv H9 b9 f9 e9 p9' C9 => ?_
        obtain ⟨hle9, ⟨dx9, hx9⟩, _⟩ := id C9
        have hl9 : j3 ≤ cws.length := hle9
        have hl8 : cws.length < 90000 := hl
        have s49 := kq (b8.trans b9)
        have s9 : Same H H9 := s4.trans s49
        refine ⟨_, rfl, cx, dx9, _, rfl, hx9, ⟨cx, cwl, cz1, cz2, os.map (·.1), us.map (·.1), cws, false⟩, j3, rfl, C9, rfl, _, rfl, ?_⟩
        cases ew : cws[j3]? with
        | some y =>
          have eh : hereV cws j3 = .str y := here_some' ew
          show if (!decide (hereV cws j3 = V.non)) = true then _ else _
          rw [eh]
          refine iteT ?_
          exact ⟨_, rfl, cx, T.C_Cursor, dx9, _, _, rfl, hx9, T.cl_Cursor, T.n_Cursor_at, lk_ix cgNd 4 rfl, raise_ok ⟨_, rfl, by omega, by omega⟩ fun d H6 s6 nd hd => q3 (by rw [ew]; exact fun z => by cases z) d H6 (s9.trans s6) hd⟩
        | none =>
          have eh : hereV cws j3 = .non := by unfold hereV; rw [ew]
          show if (!decide (hereV cws j3 = V.non)) = true then _ else _
          rw [eh]
          refine iteF ?_
          refine ⟨_, rfl, _, rfl, _, rfl, fun g dg ng ndg neg => ?_⟩
          have sg : Same H9 (upd (upd H9 dg (.own g)) g (.ins T.C_Game dg [])) := fun b o e => by rw [upd_ne (ne_of_none e ng), upd_ne (ne_of_none e ndg)]; exact e
          have sA := s49.trans sg
          refine ⟨g, dg, po, pu, p9, ov, uv, rv, os, us, rs, rfl, upd_same, sA _ _ eo4, L2.Paired.mapP po4 fun _ _ y => OptV.keep (keepT_of sA) y, by omega, sA _ _ e4, L2.Paired.mapP p4 fun _ _ y => VarV.keep (keepT_of sA) y, by omega, sg _ _ e9, L2.Paired.mapP p9' fun _ _ y => RndV.keep (keepT_of sg) y, Nat.le_trans (rndsM_len _ _ _ _ _ _ er (by decide)) (by decide), fun H' b hG => ⟨rfl, q2 ew g H' (fun c o e => b c o (ne_of_none (s9 _ _ e) ng) (sg _ _ (s9 _ _ e))) (none_back s9 ng) hG⟩⟩
/-! ### pieces_of -/
theorem take_map_snoc {α β : Type} (f : α → β) {xs : List α} {i : Nat} {x : α} (e : xs[i]? = some x) : (xs.take (i + 1)).map f = (xs.take i).map f ++ [f x] := by
  rw [List.take_add_one, e, List.map_append]
  rfl
def sp_pieces_of (T : Txt K mg) : Sp := fun vs H Q _ => ∃ (g : Addr) (os : List (Str × Bool)) (us : List (Str × Int)) (rs : List (Str × List St)), vs = [.ref g] ∧ GameS K T.C_Game H g os us rs ∧ GOk os us rs ∧ (gameW os us rs).length ≤ 400 ∧
  ∀ (p : Addr) (H' : Hp), Same H H' → H p = none → H' p = some (.lst (((pcs os us rs).map tx).map V.str)) → Q (.ref p) H'

theorem ok_pieces_of (T : Txt K mg) : FnOk P w K mg base CX0 44 T.a_pieces_of T.d_pieces_of ["game"] (sp_pieces_of T) := by
  refine T.F_pieces_of.ok sc_pieces_of (fun vs H Q E h => ?_) (fun cdv A outer s H vs Q E hr h => ?_)
  · obtain ⟨g, os, us, rs, rfl, _⟩ := h
    rfl
  obtain ⟨g, os, us, rs, rfl, ⟨dx, o, u, r, ov, uv, rv, hg, ho, po, hu, pu, hr', pr⟩, hok, hl, q⟩ := h
  refine ⟨_, (pss_cons (ps_set (i := 1) sc_pieces_of.nd rfl (by first | exact Or.inl rfl | exact Or.inr rfl) (pe_lst pa_nil))
      (pss_cons (ps_for PassesOwn.never rfl (pi_tup (pe_fld (pv 0) rfl)) (pg_tup rfl (pgs_cons (pg_name (i := 2) sc_pieces_of.nd rfl (by first | exact Or.inl rfl | exact Or.inr rfl)) (pgs_cons (pg_name (i := 3) sc_pieces_of.nd rfl (by first | exact Or.inl rfl | exact Or.inr rfl)) pgs_nil))) (pss_one (ps_expr (pe_bm PySem.F.plainAttrs_list PySem.F.slot_list_append PySem.F.type_list_append mt_append (pv 1) (pa_cons (pe_call (ok_join_words T) (hr.mono (by decide)) (by rfl) T.m_join_words T.F_join_words.kp T.b_join_words .nil pass0 (pa_cons (pe_lst (pa_cons pe_str (pa_cons (pv 2) (pa_cons (pe_ifExp (pt_truth (pv 3) (fun _ => rfl)) pe_str pe_str) pa_nil)))) pa_nil)) pa_nil)))))
      (pss_cons (ps_for PassesOwn.never rfl (pi_tup (pe_fld (pv 0) rfl)) (pg_tup rfl (pgs_cons (pg_name (i := 2) sc_pieces_of.nd rfl (by first | exact Or.inl rfl | exact Or.inr rfl)) (pgs_cons (pg_name (i := 4) sc_pieces_of.nd rfl (by first | exact Or.inl rfl | exact Or.inr rfl)) pgs_nil))) (pss_one (ps_expr (pe_bm PySem.F.plainAttrs_list PySem.F.slot_list_append PySem.F.type_list_append mt_append (pv 1) (pa_cons (pe_call (ok_join_words T) (hr.mono (by decide)) (by rfl) T.m_join_words T.F_join_words.kp T.b_join_words .nil pass0 (pa_cons (pe_lst (pa_cons pe_str (pa_cons (pv 2) (pa_cons (pe_callTy call_str_int (by rfl) T.z_str (by first | exact PySem.boot_str | decide +kernel) (pa_cons (pv 4) pa_nil)) pa_nil)))) pa_nil)) pa_nil)))))
      (pss_cons (ps_for PassesOwn.never rfl (pi_tup (pe_fld (pv 0) rfl)) (pg_tup rfl (pgs_cons (pg_name (i := 2) sc_pieces_of.nd rfl (by first | exact Or.inl rfl | exact Or.inr rfl)) (pgs_cons (pg_name (i := 5) sc_pieces_of.nd rfl (by first | exact Or.inl rfl | exact Or.inr rfl)) pgs_nil))) (pss_one (ps_expr (pe_bm PySem.F.plainAttrs_list PySem.F.slot_list_append PySem.F.type_list_append mt_append (pv 1) (pa_cons (pe_call (ok_join_words T) (hr.mono (by decide)) (by rfl) T.m_join_words T.F_join_words.kp T.b_join_words .nil pass0 (pa_cons (pe_lst (pa_cons pe_str (pa_cons (pv 2) (StX.pa_star (pe_call (ok_block_words T 10) (hr.mono (by decide)) (by rfl) T.m_block_words T.F_block_words.kp T.b_block_words .nil pass0 (pa_cons (pv 5) pa_nil)) (pa_cons pe_str pa_nil))))) pa_nil)) pa_nil)))))
      (pss_one (ps_ret (pv 1))))))), ?_⟩
  refine ⟨by show 0 ≤ sizeLine; decide, fun W hW => ?_⟩
  have sW := same_upd (o := .lst []) hW
  refine ⟨_, rfl, g, T.C_Game, dx, _, _, rfl, sW _ _ hg, T.cl_Game, T.n_Game_options, lk_ix gmNd 0 rfl, ?_⟩
  refine ⟨o, rfl, ⟨_, SqT.of (sW _ _ ho)⟩, for_tup (K := K) (a := o) (xs := ov) (fun i σ' H' => ∃ (y1 y2 : Option V), σ' = [some (.ref g), some (.ref W), y1, y2, none, none] ∧ Same H H' ∧ H' W = some (.lst (((os.take i).map (fun x => tx (optW x))).map V.str))) ⟨_, _, rfl, sW, upd_same⟩ ?_ ?_ ?_⟩
  · rintro i σ' H' _ ⟨y1, y2, rfl, s, e⟩
    exact SqT.of (s _ _ ho)
  · rintro i v σ' H2 hv ⟨y1, y2, rfl, s2, e2⟩
    obtain ⟨t, ht, U2, rfl, hU2⟩ := pgetC po hv
    refine ⟨U2, _, rfl, SqT.of (s2 _ _ hU2), rfl, _, _, rfl, _, _, rfl, rfl, ?_⟩
    have mp : optW t ∈ pcs os us rs := List.mem_append_left _ (List.mem_append_left _ (List.mem_map.mpr ⟨t, List.mem_of_getElem? ht, rfl⟩))
    have wd := pcs_wd hok _ mp
    have s12 := sum12 _ wd
    have l4 := pcs_len mp
    have fin : ∀ U, H2 U = none → (Same H (upd (upd H2 U (.lst ((optW t).map V.str))) W (.lst (((os.take i).map (fun x => tx (optW x))).map V.str ++ [V.str (tx (optW t))]))) ∧ upd (upd H2 U (.lst ((optW t).map V.str))) W (.lst (((os.take i).map (fun x => tx (optW x))).map V.str ++ [V.str (tx (optW t))])) W = some (.lst (((os.take (i + 1)).map (fun x => tx (optW x))).map V.str))) := fun U fU => by
      refine ⟨same_at (s2.trans (same_upd fU)) hW, ?_⟩
      rw [upd_same, take_map_snoc (fun x => tx (optW x)) ht, List.map_append]
      rfl
    refine ⟨_, rfl, .inl ⟨rfl, _, SqL.of e2⟩, _, rfl, _, rfl, ?_⟩
    obtain ⟨x, on⟩ := t
    have il : i < os.length := (List.getElem?_eq_some_iff.mp ht).1
    have o6 := hok.o6
    cases on
    all_goals
      refine ⟨_, rfl, ?_⟩
      first | refine iteF ?_ | refine iteT ?_
      refine ⟨by show 3 ≤ sizeLine; decide, fun U fU => ?_⟩
      obtain ⟨f1, f2⟩ := fin U fU
      refine ⟨U, optW (x, _), rfl, SqL.of upd_same, by omega, W, _, _, rfl, rfl, same_upd fU _ _ e2, small1000 (by rw [List.length_map, List.length_map, List.length_take]; omega), _, _, rfl, f1, f2⟩
  rintro σ2 H2 ⟨y1, y2, rfl, s2, e2⟩
  rw [show ov.length = os.length from paired_len po, List.take_of_length_le (Nat.le_refl _)] at e2
  refine ⟨_, rfl, g, T.C_Game, dx, _, _, rfl, s2 _ _ hg, T.cl_Game, T.n_Game_variables, lk_ix gmNd 1 rfl, ?_⟩
  refine ⟨u, rfl, ⟨_, SqT.of (s2 _ _ hu)⟩, for_tup (K := K) (a := u) (xs := uv) (fun i σ' H' => ∃ (y1 y2 y3 : Option V), σ' = [some (.ref g), some (.ref W), y1, y2, y3, none] ∧ Same H H' ∧ H' W = some (.lst ((os.map (fun x => tx (optW x)) ++ (us.take i).map (fun x => tx (varW x))).map V.str))) ⟨_, _, _, rfl, s2, by rw [List.take_zero, List.map_nil, List.append_nil]; exact e2⟩ ?_ ?_ ?_⟩
  · rintro i σ' H' _ ⟨y1, y2, y3, rfl, s, e⟩
    exact SqT.of (s _ _ hu)
  · rintro i v σ' H3 hv ⟨y1, y2, y3, rfl, s3, e3⟩
    obtain ⟨t, ht, U2, rfl, hU2⟩ := pgetC pu hv
    refine ⟨U2, _, rfl, SqT.of (s3 _ _ hU2), rfl, _, _, rfl, _, _, rfl, rfl, ?_⟩
    have mp : varW t ∈ pcs os us rs := List.mem_append_left _ (List.mem_append_right _ (List.mem_map.mpr ⟨t, List.mem_of_getElem? ht, rfl⟩))
    have wd := pcs_wd hok _ mp
    have s12 := sum12 _ wd
    have l4 := pcs_len mp
    have hn := hok.un t (List.mem_of_getElem? ht)
    have lg : t.2.natAbs.log2 < 1920 := by
      obtain ⟨j, ej⟩ := Int.eq_ofNat_of_zero_le (show 0 ≤ t.2 by omega)
      rw [ej]
      exact log_small (Nat.lt_of_lt_of_le (show j < 65536 by omega) (by decide +kernel))
    have il : i < us.length := (List.getElem?_eq_some_iff.mp ht).1
    have o6 := hok.o6
    have u12 := hok.u12
    refine ⟨_, rfl, .inl ⟨rfl, _, SqL.of e3⟩, _, rfl, _, rfl, _, rfl, lg, by show 3 ≤ sizeLine; decide, fun U fU => ?_⟩
    refine ⟨U, varW t, rfl, SqL.of upd_same, by omega, W, _, _, rfl, rfl, same_upd fU _ _ e3, small1000 (by rw [List.length_map, List.length_append, List.length_map, List.length_map, List.length_take]; omega), _, _, _, rfl, same_at (s3.trans (same_upd fU)) hW, ?_⟩
    rw [upd_same, take_map_snoc (fun x => tx (varW x)) ht, ← List.append_assoc, List.map_append (l₁ := _ ++ _)]
    rfl
  rintro σ3 H3 ⟨y1, y2, y3, rfl, s3, e3⟩
  rw [show uv.length = us.length from paired_len pu, List.take_of_length_le (Nat.le_refl _)] at e3
  refine ⟨_, rfl, g, T.C_Game, dx, _, _, rfl, s3 _ _ hg, T.cl_Game, T.n_Game_rounds, lk_ix gmNd 2 rfl, ?_⟩
  refine ⟨r, rfl, ⟨_, SqT.of (s3 _ _ hr')⟩, for_tup (K := K) (a := r) (xs := rv) (fun i σ' H' => ∃ (y1 y2 y3 y4 : Option V), σ' = [some (.ref g), some (.ref W), y1, y2, y3, y4] ∧ Same H H' ∧ H' W = some (.lst ((os.map (fun x => tx (optW x)) ++ us.map (fun x => tx (varW x)) ++ (rs.take i).map (fun x => tx (rndW x))).map V.str))) ⟨_, _, _, _, rfl, s3, by rw [List.take_zero, List.map_nil, List.append_nil]; exact e3⟩ ?_ ?_ ?_⟩
  · rintro i σ' H' _ ⟨y1, y2, y3, y4, rfl, s, e⟩
    exact SqT.of (s _ _ hr')
  · rintro i v σ' H4 hv ⟨y1, y2, y3, y4, rfl, s4, e4⟩
    obtain ⟨t, ht, U2, b, zs, rfl, hU2, hb, hbv⟩ := pgetC pr hv
    refine ⟨U2, _, rfl, SqT.of (s4 _ _ hU2), rfl, _, _, rfl, _, _, rfl, rfl, ?_⟩
    have mt := List.mem_of_getElem? ht
    have mp : rndW t ∈ pcs os us rs := List.mem_append_right _ (List.mem_map.mpr ⟨t, mt, rfl⟩)
    have wd := pcs_wd hok _ mp
    have s12 := sum12 _ wd
    have l4 := pcs_len mp
    have il : i < rs.length := (List.getElem?_eq_some_iff.mp ht).1
    have o6 := hok.o6
    have u12 := hok.u12
    have r8 := hok.r8
    obtain ⟨k, k', gg, lv⟩ := gr_mem hok.g mt
    obtain ⟨wf, nb⟩ := bl_wf _ _ _ gg
    have lw2 : (rndW t).length = (blockW t.2).length + 3 := by
      show (blockW t.2 ++ (["end"] : List Str)).length + 1 + 1 = _
      rw [List.length_append]
      rfl
    refine ⟨_, rfl, .inl ⟨rfl, _, SqL.of e4⟩, _, rfl, _, rfl, b, zs, t.2, us.map (·.1), os.map (·.1), rfl, .inl (s4 _ _ hb), hbv.keep (keepT_of s4), by omega, by decide, ⟨fun x m => (hok.u.1 x m).1.ok, fun x m => (hok.o.1 x m).1.ok⟩, wf, nb, by omega, fun p H5 s5 np e5 => ?_⟩
    refine ⟨p, _, rfl, .inr (SqL.of e5), ?_, fun U fU => ?_⟩
    · rw [List.length_cons, List.length_cons, List.length_append, List.length_map]
      exact small_le (by show (blockW t.2).length + 1 + 1 + 1 ≤ 1000; omega)
    have eV : (V.str "round" :: V.str t.1 :: ((blockW t.2).map V.str ++ [V.str "end"])) = (rndW t).map V.str := by
      show _ = ((("round" : Str) :: t.1 :: (blockW t.2 ++ (["end"] : List Str))).map V.str)
      rw [List.map_cons, List.map_cons, List.map_append]
      rfl
    rw [eV]
    have e6 := same_upd (o := .lst ((rndW t).map V.str)) fU _ _ (s5 _ _ e4)
    refine ⟨U, rndW t, rfl, SqL.of upd_same, by omega, W, _, _, rfl, rfl, e6, small1000 (by rw [List.length_map, List.length_append, List.length_append, List.length_map, List.length_map, List.length_map, List.length_take]; omega), _, _, _, _, rfl, same_at ((s4.trans s5).trans (same_upd fU)) hW, ?_⟩
    rw [upd_same, take_map_snoc (fun x => tx (rndW x)) ht, ← List.append_assoc]
    simp only [List.map_append, List.map_cons, List.map_nil]
  rintro σ5 H5 ⟨y1, y2, y3, y4, rfl, s5, e5⟩
  rw [show rv.length = rs.length from paired_len pr, List.take_of_length_le (Nat.le_refl _)] at e5
  refine ⟨_, rfl, q W H5 s5 hW ?_⟩
  rw [e5]
  unfold pcs
  simp only [List.map_append, List.map_map]
  rfl
/-! ### game_text -/
theorem DaK.mkL {K : PySem.W.Frag} {H : Hp} {a : Addr} {xs : List V} {ds : List PyData} (h : H a = some (.lst xs)) (p : Paired (DaK K H) xs ds) : DaK K H (.ref a) (.list ds) := by
  refine .lst h p.length ?_
  clear h
  intro i v d h1 h2
  induction p generalizing i with
  | nil => simp at h1
  | cons r t ih =>
    cases i with
    | zero => cases h1; cases h2; exact r
    | succ i => exact ih i (by rw [List.getElem?_cons_succ] at h1; exact h1) (by rw [List.getElem?_cons_succ] at h2; exact h2)
theorem OptV.da {K : PySem.W.Frag} {H : Hp} {v : V} {q : Str × Bool} (h : OptV H v q) : DaK K H v (optD q) := by
  obtain ⟨a, rfl, t⟩ := h
  exact .mk (.inl t) (.cons (.str _) (.cons (.bl _) .nil))
theorem VarV.da {K : PySem.W.Frag} {H : Hp} {v : V} {q : Str × Int} (h : VarV H v q) : DaK K H v (varD q) := by
  obtain ⟨a, rfl, t⟩ := h
  exact .mk (.inl t) (.cons (.str _) (.cons (.int _) .nil))
theorem RndV.da {K : PySem.W.Frag} {H : Hp} {v : V} {q : Str × List St} (h : RndV K H v q) : DaK K H v (rndD q) := by
  obtain ⟨a, b, ws, rfl, t, u, w⟩ := h
  exact .mk (.inl t) (.cons (.str _) (.cons (.mk (.inl u) w.da) .nil))
theorem da_map {α : Type} {K : PySem.W.Frag} {H : Hp} {R : V → α → Prop} {f : α → PyData} (h : ∀ v x, R v x → DaK K H v (f x)) {vs : List V} {xs : List α} (p : Paired R vs xs) : Paired (DaK K H) vs (xs.map f) := by
  induction p with
  | nil => exact .nil
  | cons r _ ih => exact .cons (h _ _ r) ih
/-- the data of a game, as a list -/
def gameDt (os : List (Str × Bool)) (us : List (Str × Int)) (rs : List (Str × List St)) : List PyData := [.tuple (os.map optD), .tuple (us.map varD), .tuple (rs.map rndD)]
mutual
theorem sz_words : ∀ s : St, s.sz ≤ s.words.length
  | .ite e t f => by
    have h1 := sz_wordsL t
    have h2 := sz_wordsL f
    have h3 : (branchW t f).length = (blockW t).length + ((if f = [] then [] else (("else" : Str) :: blockW f)).length + 1) := by
      unfold branchW
      rw [List.length_append, List.length_append]
      rfl
    have h4 : szL f ≤ (if f = [] then [] else (("else" : Str) :: blockW f)).length := by
      split
      · rename_i z
        rw [z]
        exact Nat.le_refl _
      · rw [List.length_cons]
        omega
    show 1 + szL t + szL f ≤ (e.words ++ branchW t f).length + 1
    rw [List.length_append]
    omega
  | .whn o t f => by
    have h1 := sz_wordsL t
    have h2 := sz_wordsL f
    have h3 : (branchW t f).length = (blockW t).length + ((if f = [] then [] else (("else" : Str) :: blockW f)).length + 1) := by
      unfold branchW
      rw [List.length_append, List.length_append]
      rfl
    have h4 : szL f ≤ (if f = [] then [] else (("else" : Str) :: blockW f)).length := by
      split
      · rename_i z
        rw [z]
        exact Nat.le_refl _
      · rw [List.length_cons]
        omega
    show 1 + szL t + szL f ≤ (branchW t f).length + 1 + 1
    omega
  | .set _ e => by show 1 ≤ e.words.length + 1 + 1; omega
  | .draw _ _ => by show 1 ≤ 3; omega
  | .move _ _ _ _ => by show 1 ≤ 3; omega
  | .show _ e => by show 1 ≤ e.words.length + 1 + 1; omega
  | .pay _ e => by show 1 ≤ e.words.length + 1; omega
theorem sz_wordsL : ∀ ss : List St, szL ss ≤ (blockW ss).length
  | [] => Nat.le_refl _
  | s :: r => by
    have h1 := sz_words s
    have h2 := sz_wordsL r
    show s.sz + szL r ≤ (s.words ++ blockW r).length
    rw [List.length_append]
    omega
end
theorem wide_map {α : Type} {f : α → PyData} : ∀ {xs : List α}, (∀ x ∈ xs, wide (f x) = true) → wideAll (xs.map f) = true
  | [], _ => by simp [wideAll]
  | x :: r, h => by
    have := wide_map (f := f) (xs := r) fun y m => h y (List.mem_cons_of_mem _ m)
    simp [wideAll, h x List.mem_cons_self, this]
theorem fl_get {α : Type} {f : α → List Str} : ∀ {xs : List α} {i : Nat} {x : α}, xs[i]? = some x → (f x).length ≤ (fl f xs).length
  | [], _, _, h => by simp at h
  | y :: ys, 0, _, e => by
    cases e
    rw [fl_cons, List.length_append]
    omega
  | y :: ys, i + 1, x, e => by
    have := fl_get (f := f) (xs := ys) (i := i) (x := x) (by rw [List.getElem?_cons_succ] at e; exact e)
    rw [fl_cons, List.length_append]
    omega
theorem fl_mem {α : Type} {f : α → List Str} {xs : List α} {x : α} (m : x ∈ xs) : (f x).length ≤ (fl f xs).length := by
  obtain ⟨i, hi⟩ := List.getElem?_of_mem m
  exact fl_get hi
theorem gameDt_ok {os : List (Str × Bool)} {us : List (Str × Int)} {rs : List (Str × List St)} (h : GOk os us rs) (hl : (gameW os us rs).length ≤ 400) : (PyData.list (gameDt os us rs)).depth < 40 ∧ wide (.list (gameDt os us rs)) = true := by
  have lay := h.lay
  have d1 := dep_map (f := optD) (n := 1) (xs := os) fun q _ => by simp [optD, PyData.depth, PyData.depthAll]
  have d2 := dep_map (f := varD) (n := 1) (xs := us) fun q _ => by simp [varD, PyData.depth, PyData.depthAll]
  have d3 := dep_map (f := rndD) (n := 32) (xs := rs) fun q m => by
    have := (lay.r q m).2.2
    simp only [rndD, PyData.depth, PyData.depthAll]
    omega
  have o6 := h.o6
  have u12 := h.u12
  have r8 := h.r8
  have gl : (gameW os us rs).length = (fl optW os).length + ((fl varW us).length + (fl rndW rs).length) := by
    unfold gameW
    rw [List.length_append, List.length_append]
  have w1 := wide_map (f := optD) (xs := os) fun q _ => by simp [optD, wide, wideAll]
  have w2 := wide_map (f := varD) (xs := us) fun q _ => by simp [varD, wide, wideAll]
  have w3 := wide_map (f := rndD) (xs := rs) fun q m => by
    have h1 := sz_wordsL q.2
    have h2 := fl_mem (f := rndW) m
    have h3 : (rndW q).length = (blockW q.2).length + 3 := by
      show (blockW q.2 ++ (["end"] : List Str)).length + 1 + 1 = _
      rw [List.length_append]
      rfl
    have h4 := ldat_wide q.2 (by omega)
    have h5 := len_sz q.2
    have h6 : (datL q.2).length ≤ 1000000 := by rw [datL_len]; omega
    simp [rndD, wide, wideAll, h4, h6]
  refine ⟨?_, ?_⟩
  · simp only [gameDt, PyData.depth, PyData.depthAll]
    omega
  · have l1 : os.length ≤ 1000000 := by omega
    have l2 : us.length ≤ 1000000 := by omega
    have l3 : rs.length ≤ 1000000 := by omega
    simp [gameDt, wide, wideAll, w1, w2, w3, l1, l2, l3]
def sp_game_text (T : Txt K mg) : Sp := fun vs H Q _ => ∃ (g : Addr) (os : List (Str × Bool)) (us : List (Str × Int)) (rs : List (Str × List St)), vs = [.ref g] ∧ GameS K T.C_Game H g os us rs ∧ GOk os us rs ∧ (gameW os us rs).length ≤ 400 ∧ ∀ H', Same H H' → Q (.str (tx (gameW os us rs))) H'

theorem ok_game_text (T : Txt K mg) : FnOk P w K mg base CX0 45 T.a_game_text T.d_game_text ["game"] (sp_game_text T) := by
  refine T.F_game_text.ok sc_game_text (fun vs H Q E h => ?_) (fun cdv A outer s H vs Q E hr h => ?_)
  · obtain ⟨g, os, us, rs, rfl, _⟩ := h
    rfl
  obtain ⟨g, os, us, rs, rfl, hg, hok, hl, q⟩ := h
  refine ⟨_, (pss_one (ps_ret (pe_call (ok_join_words T) (hr.mono (by decide)) (by rfl) T.m_join_words T.F_join_words.kp T.b_join_words .nil pass0 (pa_cons (pe_call (ok_pieces_of T) (hr.mono (by decide)) (by rfl) T.m_pieces_of T.F_pieces_of.kp T.b_pieces_of .nil pass0 (pa_cons (pv 0) pa_nil)) pa_nil)))), ?_⟩
  refine ⟨_, rfl, g, os, us, rs, rfl, hg, hok, hl, fun p H1 s1 np e1 => ?_⟩
  have ww := game_wd hok
  have st := sum_tx _ (pcs_wd hok)
  have lf := len_flat _ (pcs_ne (os := os) (us := us) (rs := rs))
  rw [pcs_flat] at st lf
  refine ⟨p, (pcs os us rs).map tx, rfl, SqL.of e1, ?_, ?_⟩
  · rw [List.length_map]
    omega
  · rw [tx_flat _ pcs_ne, pcs_flat]
    exact q H1 s1
/-! ### _law_pool -/
def sp_law_pool (T : Txt K mg) : Sp := fun vs H Q _ => ∃ (a : Addr) (ns : List Int) (b : Int), vs = [.ref a, .int b] ∧ SqL K H a (ns.map V.int) ∧ ∀ (p c : Addr) (H' : Hp), Same H H' → H p = none → H c = none → Pool H' p c b → Q (.ref p) H'

theorem ok_law_pool (T : Txt K mg) : FnOk P w K mg base CX0 1 T.a_law_pool T.d_law_pool ["script", "budget"] (sp_law_pool T) := by
  refine T.F_law_pool.ok sc_law_pool (fun vs H Q E h => ?_) (fun cdv A outer s H vs Q E hr h => ?_)
  · obtain ⟨a, ns, b, rfl, _⟩ := h
    rfl
  obtain ⟨a, ns, b, rfl, hS, q⟩ := h
  refine ⟨_, (pss_one (ps_ret (pe_lst (pa_cons (pe_callTy call_list_of (by rfl) T.z_list (by first | exact PySem.boot_list | decide +kernel) (pa_cons (pv 0) pa_nil)) (pa_cons pe_int (pa_cons pe_int (pa_cons pe_int (pa_cons pe_int (pa_cons (pv 1) pa_nil))))))))), ?_⟩
  refine ⟨_, rfl, a, _, rfl, .inl hS, fun c hc => ⟨_, rfl, by show 6 ≤ sizeLine; decide, fun p hp => ?_⟩⟩
  refine q p c _ (upd2_same hc hp) ((same_upd hc).free hp) hc ⟨ns, 0, 0, 1, 0, upd_same, same_upd hp _ _ upd_same, Int.le_refl 0, fun z => ?_⟩
  rw [z] at hp
  rw [upd_same] at hp
  cases hp
/-! ### _law_draw -/
def sp_law_draw (T : Txt K mg) : Sp := fun vs H Q _ => ∃ (p c : Addr) (n b : Int), vs = [.ref p, .int n] ∧ 0 < n ∧ n < 1073741824 ∧ Pool H p c b ∧ ∀ (k : Int) (H' : Hp), 0 ≤ k → k < n → But p H H' → Pool H' p c b → Q (.int k) H'

theorem ok_law_draw (T : Txt K mg) : FnOk P w K mg base CX0 1 T.a_law_draw T.d_law_draw ["pool", "size"] (sp_law_draw T) := by
  refine T.F_law_draw.ok sc_law_draw (fun vs H Q E h => ?_) (fun cdv A outer s H vs Q E hr h => ?_)
  · obtain ⟨p, c, n, b, rfl, _⟩ := h
    rfl
  obtain ⟨p, c, n, b, rfl, hn, hn2, hP, q⟩ := h
  have hP0 := hP
  obtain ⟨ns, i, r, u, t, hp, hc, hi, hcp⟩ := hP
  refine ⟨_, (C8.pss_cut (ps_if (PW.pt (pw_and (pt_cmpR op_le (pe_ix ix_list (pv 0) pe_int (fun _ _ => rfl)) pe_int (nomark _)) (pw_and (pt_cmpR op_le (pe_ix ix_list (pv 0) pe_int (fun _ _ => rfl)) pe_int (nomark _)) (pw_and1 (pt_cmpR op_lt (pe_ix ix_list (pv 0) pe_int (fun _ _ => rfl)) (pe_callB call_len_seq (by rfl) T.z_len (by first | exact PySem.boot_len | decide +kernel) (pa_cons (pe_ix ix_list (pv 0) pe_int (fun _ _ => rfl)) pa_nil)) (nomark _)))))) (pss_cons (ps_set (i := 2) sc_law_draw.nd rfl (by first | exact Or.inl rfl | exact Or.inr rfl) (pe_ix ix_list (pe_ix ix_list (pv 0) pe_int (fun _ _ => rfl)) (pe_ix ix_list (pv 0) pe_int (fun _ _ => rfl)) (fun _ _ => rfl)))
      (pss_cons (ps_asg (pe_op op_add (pe_ix ix_list (pv 0) pe_int (fun _ _ => rfl)) pe_int) (pg_sub (pv 0) pe_int set_list))
      (pss_cons (ps_asg (pe_op op_mod (pe_callTy call_int1 (by rfl) T.z_int (by first | exact PySem.boot_int | decide +kernel) (pa_cons (pe_op op_add (pe_op op_mul (pe_ix ix_list (pv 0) pe_int (fun _ _ => rfl)) pe_int) (pv 2)) pa_nil)) pe_int) (pg_sub (pv 0) pe_int set_list))
      (pss_cons (ps_asg pe_int (pg_sub (pv 0) pe_int set_list))
      (pss_one (ps_if (pt_cmpR op_ge (pv 2) (pe_op op_pow pe_int pe_int) (nomark _)) (pss_one (ps_asg (pv 2) (pg_sub (pv 0) pe_int set_list))) pss_nil)))))) pss_nil)
      (pss_cons (ps_if (pt_cmpR op_gt (pe_ix ix_list (pv 0) pe_int (fun _ _ => rfl)) pe_int (nomark _)) (pss_cons (ps_set (i := 3) sc_law_draw.nd rfl (by first | exact Or.inl rfl | exact Or.inr rfl) (pe_op op_mod (pe_callTy call_int1 (by rfl) T.z_int (by first | exact PySem.boot_int | decide +kernel) (pa_cons (pe_ix ix_list (pv 0) pe_int (fun _ _ => rfl)) pa_nil)) (pv 1)))
      (pss_cons (ps_asg (pe_op op_fdiv (pe_ix ix_list (pv 0) pe_int (fun _ _ => rfl)) (pv 1)) (pg_sub (pv 0) pe_int set_list))
      (pss_cons (ps_asg pe_int (pg_sub (pv 0) pe_int set_list))
      (pss_one (ps_ret (pv 3)))))) pss_nil)
      (pss_cons (ps_asg (pe_op op_sub (pe_ix ix_list (pv 0) pe_int (fun _ _ => rfl)) pe_int) (pg_sub (pv 0) pe_int set_list))
      (pss_cons (ps_asg (pe_op op_mod (pe_callTy call_int1 (by rfl) T.z_int (by first | exact PySem.boot_int | decide +kernel) (pa_cons (pe_op op_add (pe_op op_mul (pe_ix ix_list (pv 0) pe_int (fun _ _ => rfl)) pe_int) pe_int) pa_nil)) pe_int) (pg_sub (pv 0) pe_int set_list))
      (pss_one (ps_ret (pe_op op_mod (pe_op op_mod (pe_callTy call_int1 (by rfl) T.z_int (by first | exact PySem.boot_int | decide +kernel) (pa_cons (pe_op op_add (pe_op op_mul (pe_ix ix_list (pv 0) pe_int (fun _ _ => rfl)) pe_int) pe_int) pa_nil)) pe_int) (pv 1)))))))), ?_⟩
  let ps : Int → Int → Int → Int → List V := fun i r u t => [.ref c, .int i, .int r, .int u, .int t, .int b]
  have at0 : ∀ i r u t, atI (ps i r u t) 0 = some (.ref c) := fun _ _ _ _ => atI_nat (j := 0) rfl
  have at1 : ∀ i r u t, atI (ps i r u t) 1 = some (.int i) := fun _ _ _ _ => atI_nat (j := 1) rfl
  have at2 : ∀ i r u t, atI (ps i r u t) 2 = some (.int r) := fun _ _ _ _ => atI_nat (j := 2) rfl
  have at3 : ∀ i r u t, atI (ps i r u t) 3 = some (.int u) := fun _ _ _ _ => atI_nat (j := 3) rfl
  have at4 : ∀ i r u t, atI (ps i r u t) 4 = some (.int t) := fun _ _ _ _ => atI_nat (j := 4) rfl
  refine ⟨fun σ' H' => ∃ y i r u t, σ' = [some (.ref p), some (.int n), y, none] ∧ But p H H' ∧ H' p = some (.lst (ps i r u t)) ∧ 0 ≤ i, ?_, ?_⟩
  · refine ⟨_, rfl, p, _, 2, .int r, rfl, rfl, SqL.of hp, at2 _ _ _ _, _, _, rfl, rfl, _, rfl, ite2 (fun _ => ?_) (fun _ => ⟨none, i, r, u, t, rfl, But.refl _ _, hp, hi⟩)⟩
    refine ⟨_, rfl, p, _, 4, .int t, rfl, rfl, SqL.of hp, at4 _ _ _ _, _, _, rfl, rfl, _, rfl, ite2 (fun _ => ?_) (fun _ => ⟨none, i, r, u, t, rfl, But.refl _ _, hp, hi⟩)⟩
    refine ⟨_, rfl, p, _, 1, .int i, rfl, rfl, SqL.of hp, at1 _ _ _ _, _, rfl, p, _, 0, .ref c, rfl, rfl, SqL.of hp, at0 _ _ _ _, c, _, rfl, .inl (SqL.of hc), _, _, rfl, rfl, _, rfl, ite2 (fun c3 => ?_) (fun _ => ⟨none, i, r, u, t, rfl, But.refl _ _, hp, hi⟩)⟩
    have c3' : i < (((ns.map V.int).length : Nat) : Int) := of_decide_eq_true c3
    rw [List.length_map] at c3'
    have hlt : i.toNat < ns.length := by omega
    have gi : (ns.map V.int)[i.toNat]? = some (.int ns[i.toNat]) := by rw [List.getElem?_map, List.getElem?_eq_getElem hlt]; rfl
    -- cell = pool[0][pool[1]]
    refine ⟨_, rfl, p, _, 0, .ref c, rfl, rfl, SqL.of hp, at0 _ _ _ _, _, rfl, p, _, 1, .int i, rfl, rfl, SqL.of hp, at1 _ _ _ _, c, _, i, _, rfl, rfl, SqL.of hc, at_of (j := i.toNat) (by omega) gi, ?_⟩
    generalize ns[i.toNat] = z
    -- pool[1] = pool[1] + 1; pool[3] = ..; pool[4] = 7
    refine ⟨_, rfl, p, _, 1, .int i, rfl, rfl, SqL.of hp, at1 _ _ _ _, _, _, rfl, rfl, _, rfl, p, _, 1, 1, rfl, rfl, hp, rfl, ?_⟩
    refine ⟨_, rfl, p, ps (i + 1) r u t, 3, .int u, rfl, rfl, SqL.of upd_same, at3 _ _ _ _, _, _, rfl, rfl, .inr ⟨by decide, by decide⟩, _, rfl, _, _, rfl, rfl, .inl ⟨_, rfl, _, _, rfl, rfl, by show (0 : Int) < 2147483647; decide, _, rfl, p, ps (i + 1) r u t, 3, 3, rfl, rfl, upd_same, rfl, ?_⟩⟩
    rw [upd_upd]
    refine ⟨_, rfl, p, ps (i + 1) r ((u * 31 + z) % 2147483647) t, 4, 4, rfl, rfl, upd_same, rfl, ?_⟩
    rw [upd_upd]
    -- if cell >= 10 ** 18: pool[2] = cell
    refine ⟨_, rfl, _, _, rfl, rfl, ⟨by decide, by decide, by decide⟩, _, _, rfl, rfl, _, rfl, ite2 (fun _ => ?_) (fun _ => ?_)⟩
    · refine ⟨_, rfl, _, rfl, p, ps (i + 1) r ((u * 31 + z) % 2147483647) 7, 2, 2, rfl, rfl, upd_same, rfl, ?_⟩
      rw [upd_upd]
      exact ⟨_, i + 1, z, _, 7, rfl, but_upd, upd_same, by omega⟩
    · exact ⟨_, i + 1, r, _, 7, rfl, but_upd, upd_same, by omega⟩
  clear hp hi at0
  rintro σ1 H1 ⟨y, i, r, u, t, rfl, b1, hp, hi⟩
  have hc1 : H1 c = some (.lst (ns.map V.int)) := b1 _ _ hcp hc
  refine ⟨_, rfl, p, _, 2, .int r, rfl, rfl, SqL.of hp, at2 _ _ _ _, _, _, rfl, rfl, _, rfl, ite2 (fun _ => ?_) (fun _ => ?_)⟩
  · -- a large cell is used up
    refine ⟨_, rfl, p, _, 2, .int r, rfl, rfl, SqL.of hp, at2 _ _ _ _, .inl ⟨_, rfl, _, rfl, _, _, rfl, rfl, hn, ?_⟩⟩
    refine ⟨_, rfl, p, _, 2, .int r, rfl, rfl, SqL.of hp, at2 _ _ _ _, _, rfl, _, _, rfl, rfl, ⟨hn, hn2⟩, _, rfl, p, _, 2, 2, rfl, rfl, hp, rfl, ?_⟩
    refine ⟨_, rfl, p, ps i (r / n) u t, 4, 4, rfl, rfl, upd_same, rfl, ?_⟩
    rw [upd_upd]
    refine ⟨_, rfl, q _ _ (Int.emod_nonneg _ (by omega)) (Int.emod_lt_of_pos _ hn) (b1.trans but_upd) ⟨ns, i, r / n, u, 0, upd_same, ?_, hi, hcp⟩⟩
    rw [upd_ne hcp]
    exact hc1
  · refine ⟨_, rfl, p, _, 4, .int t, rfl, rfl, SqL.of hp, at4 _ _ _ _, _, _, rfl, rfl, _, rfl, p, _, 4, 4, rfl, rfl, hp, rfl, ?_⟩
    refine ⟨_, rfl, p, ps i r u (t - 1), 3, .int u, rfl, rfl, SqL.of upd_same, at3 _ _ _ _, _, _, rfl, rfl, .inr ⟨by decide, by decide⟩, _, _, rfl, rfl, .inl ⟨_, rfl, _, _, rfl, rfl, by show (0 : Int) < 2147483647; decide, _, rfl, p, ps i r u (t - 1), 3, 3, rfl, rfl, upd_same, rfl, ?_⟩⟩
    rw [upd_upd]
    refine ⟨_, rfl, p, ps i r ((u * 48271 + 12345) % 2147483647) (t - 1), 3, _, rfl, rfl, SqL.of upd_same, at3 _ _ _ _, _, _, rfl, rfl, .inr ⟨by decide, by decide⟩, _, _, rfl, rfl, .inl ⟨_, rfl, _, _, rfl, rfl, by show (0 : Int) < 2147483647; decide, _, rfl, _, _, rfl, rfl, hn, ?_⟩⟩
    refine q _ _ (Int.emod_nonneg _ (by omega)) (Int.emod_lt_of_pos _ hn) (b1.trans but_upd) ⟨ns, i, r, _, t - 1, upd_same, ?_, hi, hcp⟩
    rw [upd_ne hcp]
    exact hc1
/-! ### _law_same -/
def sp_law_same (T : Txt K mg) (n : Nat) : Sp := fun vs H Q _ => ∃ (x y : V) (d : PyData), vs = [x, y] ∧ DaK K H x d ∧ DaK K H y d ∧ d.depth < n ∧ wide d = true ∧ Q (.bl true) H
theorem no_law_same (T : Txt K mg) : ∀ vs H Q E, ¬ sp_law_same T 0 vs H Q E := fun vs H Q E ⟨_, _, _, _, _, _, h, _⟩ => Nat.not_lt_zero _ h

theorem step_law_same (T : Txt K mg) {n : Nat} (G : FnOk P w K mg base CX0 (0 + n) T.a_law_same T.d_law_same ["actual", "due"] (sp_law_same T n)) : FnOk P w K mg base CX0 (0 + n + 1) T.a_law_same T.d_law_same ["actual", "due"] (sp_law_same T (n + 1)) := by
  refine T.F_law_same.ok sc_law_same (fun vs H Q E h => ?_) (fun cdv A outer s H vs Q E hr h => ?_)
  · obtain ⟨x, y, d, rfl, _⟩ := h
    rfl
  obtain ⟨x, y, d, rfl, hx, hy, hd, hw, q⟩ := h
  refine ⟨_, (pss_cons (ps_if (PW.pt (pw_or (pt_truth (pe_callB call_isi (by rfl) T.z_isinstance (by first | exact PySem.boot_isinstance | decide +kernel) (pa_cons (pv 1) (pa_cons (pe_bltn (v := .ty "tuple") (by rfl) T.z_tuple (by decide +kernel) rfl) pa_nil))) (fun _ => rfl)) (pw_or1 (pt_truth (pe_callB call_isi (by rfl) T.z_isinstance (by first | exact PySem.boot_isinstance | decide +kernel) (pa_cons (pv 1) (pa_cons (pe_bltn (v := .ty "list") (by rfl) T.z_list (by decide +kernel) rfl) pa_nil))) (fun _ => rfl))))) (pss_cons (ps_if (PW.pt (pw_or (pt_cmpR op_ne (pe_callB call_isi (by rfl) T.z_isinstance (by first | exact PySem.boot_isinstance | decide +kernel) (pa_cons (pv 1) (pa_cons (pe_bltn (v := .ty "tuple") (by rfl) T.z_tuple (by decide +kernel) rfl) pa_nil))) (pe_callB call_isi (by rfl) T.z_isinstance (by first | exact PySem.boot_isinstance | decide +kernel) (pa_cons (pv 0) (pa_cons (pe_bltn (v := .ty "tuple") (by rfl) T.z_tuple (by decide +kernel) rfl) pa_nil))) (nomark _)) (pw_or1 (pt_cmpR op_ne (pe_callB call_isi (by rfl) T.z_isinstance (by first | exact PySem.boot_isinstance | decide +kernel) (pa_cons (pv 1) (pa_cons (pe_bltn (v := .ty "list") (by rfl) T.z_list (by decide +kernel) rfl) pa_nil))) (pe_callB call_isi (by rfl) T.z_isinstance (by first | exact PySem.boot_isinstance | decide +kernel) (pa_cons (pv 0) (pa_cons (pe_bltn (v := .ty "list") (by rfl) T.z_list (by decide +kernel) rfl) pa_nil))) (nomark _))))) (pss_one (ps_ret pe_bl)) pss_nil)
      (pss_cons (ps_if (pt_cmpR op_ne (pe_callB call_len_seq (by rfl) T.z_len (by first | exact PySem.boot_len | decide +kernel) (pa_cons (pv 0) pa_nil)) (pe_callB call_len_seq (by rfl) T.z_len (by first | exact PySem.boot_len | decide +kernel) (pa_cons (pv 1) pa_nil)) (nomark _)) (pss_one (ps_ret pe_bl)) pss_nil)
      (pss_cons (ps_for PassesOwn.never rfl (pi_range1 (by rfl) T.z_range (pa_cons (pe_callB call_len_seq (by rfl) T.z_len (by first | exact PySem.boot_len | decide +kernel) (pa_cons (pv 1) pa_nil)) pa_nil)) (pg_name (i := 2) sc_law_same.nd rfl (by first | exact Or.inl rfl | exact Or.inr rfl)) (pss_one (ps_if (pt_not (pt_truth (pe_call G hr (by rfl) T.m_law_same T.F_law_same.kp T.b_law_same .nil pass0 (pa_cons (pe_ix (IxR.or ix_list ix_tup) (pv 0) (pv 2) (fun _ _ => rfl)) (pa_cons (pe_ix (IxR.or ix_list ix_tup) (pv 1) (pv 2) (fun _ _ => rfl)) pa_nil))) (fun _ => rfl))) (pss_one (ps_ret pe_bl)) pss_nil)))
      (pss_one (ps_ret pe_bl))))) pss_nil)
      (pss_cons (ps_if (PW.pt (pw_or (pt_cmpR op_isN (pv 1) pe_non (nomark _)) (pw_or1 (pt_truth (pe_callB call_isi (by rfl) T.z_isinstance (by first | exact PySem.boot_isinstance | decide +kernel) (pa_cons (pv 1) (pa_cons (pe_bltn (v := .ty "bool") (by rfl) T.z_bool (by decide +kernel) rfl) pa_nil))) (fun _ => rfl))))) (pss_one (ps_ret (pe_and (pe_cmpR op_eq (pe_cmpR op_isN (pv 0) pe_non (nomark _)) (pe_cmpR op_isN (pv 1) pe_non (nomark _)) (nomark _)) (pe_and (pe_or (pe_cmpR op_isN (pv 1) pe_non (nomark _)) (pe_one (pe_callB call_isi (by rfl) T.z_isinstance (by first | exact PySem.boot_isinstance | decide +kernel) (pa_cons (pv 0) (pa_cons (pe_bltn (v := .ty "bool") (by rfl) T.z_bool (by decide +kernel) rfl) pa_nil))))) (pe_one (pe_cmpR op_eq (pv 0) (pv 1) (nomark _))))))) pss_nil)
      (pss_cons (ps_if (pt_truth (pe_callB call_isi (by rfl) T.z_isinstance (by first | exact PySem.boot_isinstance | decide +kernel) (pa_cons (pv 1) (pa_cons (pe_bltn (v := .ty "int") (by rfl) T.z_int (by decide +kernel) rfl) pa_nil))) (fun _ => rfl)) (pss_one (ps_ret (pe_and (pe_callB call_isi (by rfl) T.z_isinstance (by first | exact PySem.boot_isinstance | decide +kernel) (pa_cons (pv 0) (pa_cons (pe_bltn (v := .ty "int") (by rfl) T.z_int (by decide +kernel) rfl) pa_nil))) (pe_and (pe_not (pe_callB call_isi (by rfl) T.z_isinstance (by first | exact PySem.boot_isinstance | decide +kernel) (pa_cons (pv 0) (pa_cons (pe_bltn (v := .ty "bool") (by rfl) T.z_bool (by decide +kernel) rfl) pa_nil)))) (pe_one (pe_cmpR op_eq (pv 0) (pv 1) (nomark _))))))) pss_nil)
      (pss_one (ps_ret (pe_and (pe_callB call_isi (by rfl) T.z_isinstance (by first | exact PySem.boot_isinstance | decide +kernel) (pa_cons (pv 0) (pa_cons (pe_bltn (v := .ty "str") (by rfl) T.z_str (by decide +kernel) rfl) pa_nil))) (pe_one (pe_cmpR op_eq (pv 0) (pv 1) (nomark _))))))))), ?_⟩
  cases d with
  | dict kvs => cases hx
  | none =>
    cases hx
    cases hy
    refine ⟨_, rfl, .non, .ty "tuple", .type "NoneType", .type "tuple", false, rfl, .ty _, .base .non, kit_ty (by decide +kernel), false, rfl, ?_⟩
    refine ⟨_, rfl, .non, .ty "list", .type "NoneType", .type "list", false, rfl, .ty _, .base .non, kit_ty (by decide +kernel), false, rfl, ?_⟩
    refine ⟨_, rfl, rfl, _, rfl, ?_⟩
    refine ⟨_, rfl, rfl, _, rfl, rfl, rfl, _, rfl, ?_⟩
    refine ⟨_, rfl, rfl, _, rfl, ?_⟩
    exact ⟨_, rfl, _, rfl, _, rfl, rfl, q⟩
  | bool b =>
    cases hx
    cases hy
    refine ⟨_, rfl, .bl b, .ty "tuple", .type "bool", .type "tuple", false, rfl, .ty _, .base (.bl b), kit_ty (by decide +kernel), false, rfl, ?_⟩
    refine ⟨_, rfl, .bl b, .ty "list", .type "bool", .type "list", false, rfl, .ty _, .base (.bl b), kit_ty (by decide +kernel), false, rfl, ?_⟩
    refine ⟨_, rfl, rfl, _, rfl, ?_⟩
    refine ⟨_, rfl, .bl b, .ty "bool", .type "bool", .type "bool", true, rfl, .ty _, .base (.bl b), kit_ty (by decide +kernel), true, rfl, ?_⟩
    refine ⟨_, rfl, rfl, _, rfl, rfl, rfl, _, rfl, ?_⟩
    refine ⟨_, rfl, rfl, _, rfl, ?_⟩
    refine ⟨_, rfl, .bl b, .ty "bool", .type "bool", .type "bool", true, rfl, .ty _, .base (.bl b), kit_ty (by decide +kernel), _, rfl, ?_⟩
    refine ⟨_, rfl, _, rfl, rfl, ?_⟩
    show Q (.bl (decide (V.bl b = V.bl b))) _
    rw [decide_eq_true rfl]
    exact q
  | int i =>
    cases hx
    cases hy
    refine ⟨_, rfl, .int i, .ty "tuple", .type "int", .type "tuple", false, rfl, .ty _, .base (.int i), kit_ty (by decide +kernel), false, rfl, ?_⟩
    refine ⟨_, rfl, .int i, .ty "list", .type "int", .type "list", false, rfl, .ty _, .base (.int i), kit_ty (by decide +kernel), false, rfl, ?_⟩
    refine ⟨_, rfl, rfl, _, rfl, ?_⟩
    refine ⟨_, rfl, .int i, .ty "bool", .type "int", .type "bool", false, rfl, .ty _, .base (.int i), kit_ty (by decide +kernel), false, rfl, ?_⟩
    refine ⟨_, rfl, .int i, .ty "int", .type "int", .type "int", true, rfl, .ty _, .base (.int i), kit_ty (by decide +kernel), true, rfl, ?_⟩
    refine ⟨_, rfl, .int i, .ty "int", .type "int", .type "int", true, rfl, .ty _, .base (.int i), kit_ty (by decide +kernel), _, rfl, ?_⟩
    refine ⟨_, rfl, .int i, .ty "bool", .type "int", .type "bool", false, rfl, .ty _, .base (.int i), kit_ty (by decide +kernel), _, rfl, _, rfl, ?_⟩
    refine ⟨_, rfl, _, rfl, rfl, ?_⟩
    show Q (.bl (decide (V.int i = V.int i))) _
    rw [decide_eq_true rfl]
    exact q
  | str x =>
    cases hx
    cases hy
    refine ⟨_, rfl, .str x, .ty "tuple", .type "str", .type "tuple", false, rfl, .ty _, .base (.str x), kit_ty (by decide +kernel), false, rfl, ?_⟩
    refine ⟨_, rfl, .str x, .ty "list", .type "str", .type "list", false, rfl, .ty _, .base (.str x), kit_ty (by decide +kernel), false, rfl, ?_⟩
    refine ⟨_, rfl, rfl, _, rfl, ?_⟩
    refine ⟨_, rfl, .str x, .ty "bool", .type "str", .type "bool", false, rfl, .ty _, .base (.str x), kit_ty (by decide +kernel), false, rfl, ?_⟩
    refine ⟨_, rfl, .str x, .ty "int", .type "str", .type "int", false, rfl, .ty _, .base (.str x), kit_ty (by decide +kernel), false, rfl, ?_⟩
    refine ⟨_, rfl, .str x, .ty "str", .type "str", .type "str", true, rfl, .ty _, .base (.str x), kit_ty (by decide +kernel), _, rfl, ?_⟩
    refine ⟨_, rfl, _, rfl, rfl, ?_⟩
    show Q (.bl (decide (V.str x = V.str x))) _
    rw [decide_eq_true rfl]
    exact q
  | tuple ds =>
    cases hx with
    | @tup px xs _ hpx lx ex =>
    cases hy with
    | @tup py ys _ hpy ly ey =>
    simp only [wide, Bool.and_eq_true, decide_eq_true_eq] at hw
    have hl : ((xs.length : Nat) : Int) = ((ys.length : Nat) : Int) := by rw [lx, ly]
    refine ⟨_, rfl, .ref py, .ty "tuple", .type "tuple", .type "tuple", true, rfl, .ty _, hpy.ty, kit_ty (by decide +kernel), true, rfl, ?_⟩
    refine ⟨_, rfl, .ref py, .ty "tuple", .type "tuple", .type "tuple", true, rfl, .ty _, hpy.ty, kit_ty (by decide +kernel), _, rfl, .ref px, .ty "tuple", .type "tuple", .type "tuple", true, rfl, .ty _, hpx.ty, kit_ty (by decide +kernel), rfl, _, rfl, ?_⟩
    refine ⟨_, rfl, .ref py, .ty "list", .type "tuple", .type "list", false, rfl, .ty _, hpy.ty, kit_ty (by decide +kernel), _, rfl, .ref px, .ty "list", .type "tuple", .type "list", false, rfl, .ty _, hpx.ty, kit_ty (by decide +kernel), rfl, _, rfl, ?_⟩
    refine ⟨_, rfl, px, xs, rfl, .inr (hpx.sq), _, rfl, py, ys, rfl, .inr (hpy.sq), rfl, _, rfl, iteNS (congrArg V.int hl) ?_⟩
    refine ⟨_, rfl, py, ys, rfl, .inr (hpy.sq), _, rfl, by omega, by omega, for_range (fun i σ' H' => ∃ yk, σ' = [some (.ref px), some (.ref py), yk] ∧ H' = H) ⟨_, rfl, rfl⟩ ?_ ?_⟩
    · rintro i σ1 H1 hi ⟨yk, rfl, rfl⟩
      have hi2 : i < ds.length := by rw [← ly]; exact hi
      have gd : ds[i]? = some ds[i] := List.getElem?_eq_getElem hi2
      have gx : xs[i]? = some xs[i] := List.getElem?_eq_getElem (by rw [lx]; exact hi2)
      have gy : ys[i]? = some ys[i] := List.getElem?_eq_getElem (by rw [ly]; exact hi2)
      have e0 : (0 : Int) + (i : Int) = ((i : Nat) : Int) := Int.zero_add _
      refine ⟨_, rfl, _, rfl, .inr ⟨px, xs, _, _, rfl, rfl, hpx.sq, at_of e0 gx, _, rfl, _, rfl, .inr ⟨py, ys, _, _, rfl, rfl, hpy.sq, at_of e0 gy, xs[i], ys[i], ds[i], rfl, ex i _ _ gx gd, ey i _ _ gy gd, ?_, wide_get hw.2 gd, true, rfl, _, rfl, rfl⟩⟩⟩
      have dg := depth_get gd
      simp only [PyData.depth] at hd
      omega
    · rintro σ1 H1 ⟨yk, rfl, rfl⟩
      exact q
  | list ds =>
    cases hx with
    | @lst px xs _ hpx lx ex =>
    cases hy with
    | @lst py ys _ hpy ly ey =>
    simp only [wide, Bool.and_eq_true, decide_eq_true_eq] at hw
    have hl : ((xs.length : Nat) : Int) = ((ys.length : Nat) : Int) := by rw [lx, ly]
    refine ⟨_, rfl, .ref py, .ty "tuple", .type "list", .type "tuple", false, rfl, .ty _, .base (.lst hpy), kit_ty (by decide +kernel), false, rfl, ?_⟩
    refine ⟨_, rfl, .ref py, .ty "list", .type "list", .type "list", true, rfl, .ty _, .base (.lst hpy), kit_ty (by decide +kernel), true, rfl, ?_⟩
    refine ⟨_, rfl, .ref py, .ty "tuple", .type "list", .type "tuple", false, rfl, .ty _, .base (.lst hpy), kit_ty (by decide +kernel), _, rfl, .ref px, .ty "tuple", .type "list", .type "tuple", false, rfl, .ty _, .base (.lst hpx), kit_ty (by decide +kernel), rfl, _, rfl, ?_⟩
    refine ⟨_, rfl, .ref py, .ty "list", .type "list", .type "list", true, rfl, .ty _, .base (.lst hpy), kit_ty (by decide +kernel), _, rfl, .ref px, .ty "list", .type "list", .type "list", true, rfl, .ty _, .base (.lst hpx), kit_ty (by decide +kernel), rfl, _, rfl, ?_⟩
    refine ⟨_, rfl, px, xs, rfl, .inl (SqL.of hpx), _, rfl, py, ys, rfl, .inl (SqL.of hpy), rfl, _, rfl, iteNS (congrArg V.int hl) ?_⟩
    refine ⟨_, rfl, py, ys, rfl, .inl (SqL.of hpy), _, rfl, by omega, by omega, for_range (fun i σ' H' => ∃ yk, σ' = [some (.ref px), some (.ref py), yk] ∧ H' = H) ⟨_, rfl, rfl⟩ ?_ ?_⟩
    · rintro i σ1 H1 hi ⟨yk, rfl, rfl⟩
      have hi2 : i < ds.length := by rw [← ly]; exact hi
      have gd : ds[i]? = some ds[i] := List.getElem?_eq_getElem hi2
      have gx : xs[i]? = some xs[i] := List.getElem?_eq_getElem (by rw [lx]; exact hi2)
      have gy : ys[i]? = some ys[i] := List.getElem?_eq_getElem (by rw [ly]; exact hi2)
      have e0 : (0 : Int) + (i : Int) = ((i : Nat) : Int) := Int.zero_add _
      refine ⟨_, rfl, _, rfl, .inl ⟨px, xs, _, _, rfl, rfl, SqL.of hpx, at_of e0 gx, _, rfl, _, rfl, .inl ⟨py, ys, _, _, rfl, rfl, SqL.of hpy, at_of e0 gy, xs[i], ys[i], ds[i], rfl, ex i _ _ gx gd, ey i _ _ gy gd, ?_, wide_get hw.2 gd, true, rfl, _, rfl, rfl⟩⟩⟩
      have dg := depth_get gd
      simp only [PyData.depth] at hd
      omega
    · rintro σ1 H1 ⟨yk, rfl, rfl⟩
      exact q
theorem ok_law_same (T : Txt K mg) : ∀ n, FnOk P w K mg base CX0 (0 + n) T.a_law_same T.d_law_same ["actual", "due"] (sp_law_same T n)
  | 0 => ⟨fun vs H Q E h => absurd h (no_law_same T vs H Q E), fun A outer s H args us vs Q E _ _ _ _ h => absurd h (no_law_same T vs H Q E)⟩
  | n + 1 => step_law_same T (ok_law_same T n)
/-! ### _law_read -/
def sp_law_read (T : Txt K mg) : Sp := fun vs H Q _ => ∃ (ws : List Str), vs = [.str (tx ws)] ∧ Parts ws (tx ws) ∧ Wds ws ∧ ws.length < 90000 ∧ (tx ws).length ≤ 1000000 ∧
  ((∃ os us rs, GOk os us rs ∧ ws = gameW os us rs ∧ (gameW os us rs).length ≤ 400 ∧ ∀ p H', Same H H' → H p = none → H' p = some (.tup [.str "read", .str (tx ws)]) → Q (.ref p) H') ∨
    ∃ n : Nat, RdBad ws n ∧ ∀ p H', Same H H' → H p = none → H' p = some (.tup [.str "refused", .int ((n : Nat) : Int), .bl true]) → Q (.ref p) H')

theorem ok_law_read (T : Txt K mg) : FnOk P w K mg base CX0 61 T.a_law_read T.d_law_read ["text"] (sp_law_read T) := by
  refine T.F_law_read.ok sc_law_read (fun vs H Q E h => ?_) (fun cdv A outer s H vs Q E hr h => ?_)
  · obtain ⟨ws, rfl, _⟩ := h
    rfl
  obtain ⟨ws, rfl, hp, hW, hl, hx, q⟩ := h
  refine ⟨_, (pss_one (ps_try_asN (i := 2) rfl rfl sc_law_read.nd rfl rfl ⟨rfl, by decide, .inl T.m_BadText⟩ takes0 (fun W pn xe tk ow => (by exact (pss_cons (ps_set (i := 1) sc_law_read.nd rfl (by first | exact Or.inl rfl | exact Or.inr rfl) (pe_callSD (ok_read_game_x T) (hr.mono (by decide)) (by rfl) T.m_read_game T.F_read_game.kp T.b_read_game .nil (fun σ => passAt tk σ) (pa_cons (pv 0) pa_nil)))
      (pss_one (ps_ret (pe_tup (pa_cons pe_str (pa_cons (pe_call (ok_game_text T) (hr.mono (by decide)) (by rfl) T.m_game_text T.F_game_text.kp T.b_game_text .nil pass0 (pa_cons (pv 1) pa_nil)) pa_nil)))))))) (fun ae oe cls d pn hz hf => (by exact (by exact (pss_one (by exact (ps_ret (by exact (pe_tup (by exact (pa_cons pe_str (pa_cons (by exact (pe_xf T.e_BadText.xf T.e_BadText.no hz hf (by exact (pv 2)))) (pa_cons (by exact (pe_callB (call_isX hz hf) (by rfl) T.z_isinstance (by first | exact PySem.boot_isinstance | decide +kernel) (by exact (pa_cons (by exact (pv 2)) (pa_cons (by exact (pe_glob (v := .ref T.C_GameError) (by rfl) T.m_GameError rfl)) pa_nil))))) pa_nil)))))))))))))), ?_⟩
  refine ⟨_, rfl, tx ws, ws, rfl, hx, hp, hW, hl, ?_⟩
  rcases q with ⟨os, us, rs, hok, rfl, l4, q⟩ | ⟨n, hb, q⟩
  · refine game_back hok fun g H1 s1 ng hg => ?_
    refine ⟨_, rfl, g, os, us, rs, rfl, hg, hok, l4, fun H2 s2 => ⟨by show 2 ≤ sizeLine; decide, fun p fp => ?_⟩⟩
    exact q p _ ((s1.trans s2).trans (same_upd fp)) (none_back (s1.trans s2) fp) upd_same
  · refine hb _ _ _ _ _ _ fun d H1 s1 hv => ?_
    refine ⟨true, T.t_BadText, fun _ ea nea => ?_, fun z => Bool.noConfusion z⟩
    refine ⟨_, rfl, rfl, rfl, d, _, _, rfl, hv, rfl, _, rfl, T.C_BadText, d, _, true, rfl, rfl, T.e_BadText.ox, T.e_BadText.xf, T.i_BadText, hv, .inl ⟨.ref T.C_GameError, .ref T.C_GameError, rfl, fun u h => h, T.kk_BadText_GameError⟩, by show 3 ≤ sizeLine; decide, fun p fp => ?_⟩
    exact q p _ (s1.trans (same_upd fp)) (none_back s1 fp) upd_same
/-! ### _law_many -/
/-- a text, a place and whether it is refused there, in the store -/
def TriV (H : Hp) (t : Addr) (ws : List Str) (n : Nat) (w : Bool) : Prop := ∃ q, H t = some (.tup [.ref q, .int ((n : Nat) : Int), .bl w]) ∧ H q = some (.lst (ws.map V.str))
def GenS (_ : PySem.W.Frag) (vs : List V) (H : Hp) (Q : VK) : Prop := ∃ (p c : Addr) (b : Int), vs = [.ref p] ∧ Pool H p c b ∧ ∀ (t : Addr) (ws : List Str) (n : Nat) (w : Bool) (H' : Hp), BT ws n w → TriV H' t ws n w → Q (.ref t) H'
theorem rep_map (xs : List Str) : ∀ n : Nat, (List.replicate n (xs.map V.str)).flatten = ((List.replicate n xs).flatten).map V.str
  | 0 => rfl
  | n + 1 => by
    rw [List.replicate_succ, List.replicate_succ, List.flatten_cons, List.flatten_cons, List.map_append, rep_map xs n]
theorem rep_one (x : Str) : ∀ n : Nat, (List.replicate n ([x] : List Str)).flatten = List.replicate n x
  | 0 => rfl
  | n + 1 => by
    rw [List.replicate_succ, List.flatten_cons, rep_one x n, List.replicate_succ]
    rfl
def sp_law_many (T : Txt K mg) : Sp := fun vs H Q _ => ∃ (p c pr : Addr) (b : Int) (w : Str) (rest : List Str) (most : Nat), vs = [.ref p, .str w, .ref pr, .int ((most : Nat) : Int)] ∧ Pool H p c b ∧ pr ≠ p ∧ H pr = some (.lst (rest.map V.str)) ∧ rest.length ≤ 3 ∧ most ≤ 12 ∧
  ∀ (t : Addr) (k : Nat) (H' : Hp), k ≤ most + 2 → TriV H' t (manyW w rest k) (most * (2 + rest.length)) (decide (most < k)) → Q (.ref t) H'

theorem ok_law_many (T : Txt K mg) : FnOk P w K mg base CX0 2 T.a_law_many T.d_law_many ["pool", "word", "rest", "most"] (sp_law_many T) := by
  refine T.F_law_many.ok sc_law_many (fun vs H Q E h => ?_) (fun cdv A outer s H vs Q E hr h => ?_)
  · obtain ⟨p, c, pr, b, w, rest, most, rfl, _⟩ := h
    rfl
  obtain ⟨p, c, pr, b, w, rest, most, rfl, hP, npr, hpr, lr, lm, q⟩ := h
  refine ⟨_, (pss_cons (ps_set (i := 4) sc_law_many.nd rfl (by first | exact Or.inl rfl | exact Or.inr rfl) (pe_call (ok_law_draw T) (hr.mono (by decide)) (by rfl) T.m_law_draw T.F_law_draw.kp T.b_law_draw .nil pass0 (pa_cons (pv 0) (pa_cons (pe_op op_add (pv 3) pe_int) pa_nil))))
      (pss_cons (ps_set (i := 5) sc_law_many.nd rfl (by first | exact Or.inl rfl | exact Or.inr rfl) (pe_lst pa_nil))
      (pss_cons (ps_for PassesOwn.never rfl (pi_range1 (by rfl) T.z_range (pa_cons (pv 4) pa_nil)) (pg_name (i := 6) sc_law_many.nd rfl (by first | exact Or.inl rfl | exact Or.inr rfl)) (pss_one (ps_set (i := 5) sc_law_many.nd rfl (by first | exact Or.inl rfl | exact Or.inr rfl) (pe_op op_cat (pe_op op_cat (pv 5) (pe_lst (pa_cons (pv 1) (pa_cons (pe_op op_add_str pe_str (pe_callTy call_str_int (by rfl) T.z_str (by first | exact PySem.boot_str | decide +kernel) (pa_cons (pv 6) pa_nil))) pa_nil)))) (pv 2)))))
      (pss_one (ps_ret (pe_tup (pa_cons (pv 5) (pa_cons (pe_op op_mul (pv 3) (pe_op op_add pe_int (pe_callB call_len_seq (by rfl) T.z_len (by first | exact PySem.boot_len | decide +kernel) (pa_cons (pv 2) pa_nil)))) (pa_cons (pe_cmpR op_gt (pv 4) (pv 3) (nomark _)) pa_nil))))))))), ?_⟩
  refine ⟨_, rfl, _, rfl, _, _, rfl, rfl, p, c, _, b, rfl, by omega, by omega, hP, fun z H1 z0 z1 b1 P1 => ?_⟩
  obtain ⟨k, rfl⟩ := Int.eq_ofNat_of_zero_le z0
  have hk : k ≤ most + 2 := by omega
  have hpr1 := b1 _ _ npr hpr
  refine ⟨by show 0 ≤ sizeLine; decide, fun W fW => ?_⟩
  have sW := same_upd (o := .lst []) fW
  refine ⟨_, rfl, ((k : Nat) : Int), rfl, by omega, by omega, for_range (fun i σ' H' => ∃ (W : Addr) (y : Option V), σ' = [some (.ref p), some (.str w), some (.ref pr), some (.int ((most : Nat) : Int)), some (.int ((k : Nat) : Int)), some (.ref W), y] ∧ Same H1 H' ∧ H' W = some (.lst ((manyW w rest i).map V.str))) ⟨W, _, rfl, sW, upd_same⟩ ?_ ?_⟩
  · rintro i σ2 H2 hi ⟨W2, y, rfl, s2, e2⟩
    obtain ⟨sl, lg⟩ := small_str (k := 0 + (i : Int)) (by omega) (by omega)
    have ml := many_len w rest i
    have lw : (manyW w rest i).length ≤ 100 := by
      rw [ml]
      have : (2 + rest.length) * i ≤ 5 * 14 := Nat.mul_le_mul (by omega) (by omega)
      omega
    refine ⟨_, rfl, _, rfl, _, rfl, _, rfl, lg, _, _, rfl, rfl, ?_, by show 2 ≤ sizeLine; decide, fun X fX => ?_⟩
    · show 1 + _ ≤ sizeLine
      exact small_le (by omega)
    have sX := same_upd (o := .lst [V.str w, .str (("n" : Str) ++ Str.ofString (toString (0 + (i : Int))))]) fX
    refine ⟨W2, X, _, _, rfl, rfl, sX _ _ e2, upd_same, small_le (by rw [List.length_map]; show _ + 2 ≤ _; omega), fun Y fY => ?_⟩
    have sY := same_upd (o := .lst ((manyW w rest i).map V.str ++ [V.str w, .str (("n" : Str) ++ Str.ofString (toString (0 + (i : Int))))])) fY
    have s3 := (s2.trans sX).trans sY
    refine ⟨_, rfl, Y, pr, _, _, rfl, rfl, upd_same, s3 _ _ hpr1, small_le (by rw [List.length_append, List.length_map, List.length_map]; show _ + 2 + _ ≤ _; omega), fun Z fZ => ?_⟩
    refine ⟨Z, _, rfl, s3.trans (same_upd fZ), ?_⟩
    have tk : manyW w rest (i + 1) = manyW w rest i ++ (w :: nS i :: rest) := by
      unfold manyW
      rw [List.range_succ, fl_app]
      show _ ++ ((w :: nS i :: rest) ++ []) = _
      rw [List.append_nil]
    rw [upd_same, tk, nS_val, List.map_append, List.append_assoc]
    rfl
  · rintro σ2 H2 ⟨W2, y, rfl, s2, e2⟩
    refine ⟨_, rfl, _, rfl, _, rfl, pr, _, rfl, .inl (SqL.of (s2 _ _ hpr1)), _, _, rfl, rfl, _, _, rfl, rfl, .inl ⟨by omega, by omega⟩, _, rfl, _, rfl, _, _, rfl, rfl, by show 3 ≤ sizeLine; decide, fun U fU => ?_⟩
    refine q U k _ hk ⟨W2, ?_, same_upd fU _ _ e2⟩
    have e3 : ((most : Nat) : Int) * (2 + (((rest.map V.str).length : Nat) : Int)) = ((most * (2 + rest.length) : Nat) : Int) := by
      rw [List.length_map, Int.natCast_mul, Int.natCast_add]
      rfl
    have e4 : decide (((most : Nat) : Int) < ((k : Nat) : Int)) = decide (most < k) := decide_eq_decide.mpr Int.ofNat_lt
    rw [upd_same]
    show some (HO.tup [V.ref W2, .int (((most : Nat) : Int) * (2 + (((rest.map V.str).length : Nat) : Int))), .bl (decide (((most : Nat) : Int) < ((k : Nat) : Int)))]) = _
    rw [e3, e4]
/-! ### _law_branchings -/
def sp_law_branchings (T : Txt K mg) : Sp := fun vs H Q _ => GenS K vs H Q

theorem ok_law_branchings (T : Txt K mg) : FnOk P w K mg base CX0 2 T.a_law_branchings T.d_law_branchings ["pool"] (sp_law_branchings T) := by
  refine T.F_law_branchings.ok sc_law_branchings (fun vs H Q E h => ?_) (fun cdv A outer s H vs Q E hr h => ?_)
  · obtain ⟨p, c, b, rfl, _⟩ := h
    rfl
  obtain ⟨p, c, b, rfl, hP, q⟩ := h
  refine ⟨_, (pss_cons (ps_set (i := 1) sc_law_branchings.nd rfl (by first | exact Or.inl rfl | exact Or.inr rfl) (pe_lst (pa_cons pe_str (pa_cons pe_str (pa_cons pe_str (pa_cons pe_str (pa_cons pe_str pa_nil)))))))
      (pss_cons (ps_set (i := 2) sc_law_branchings.nd rfl (by first | exact Or.inl rfl | exact Or.inr rfl) (pe_op op_add pe_int (pe_call (ok_law_draw T) (hr.mono (by decide)) (by rfl) T.m_law_draw T.F_law_draw.kp T.b_law_draw .nil pass0 (pa_cons (pv 0) (pa_cons pe_int pa_nil)))))
      (pss_cons (ps_for PassesOwn.never rfl (pi_range1 (by rfl) T.z_range (pa_cons (pv 2) pa_nil)) (pg_name (i := 3) sc_law_branchings.nd rfl (by first | exact Or.inl rfl | exact Or.inr rfl)) (pss_one (ps_set (i := 1) sc_law_branchings.nd rfl (by first | exact Or.inl rfl | exact Or.inr rfl) (pe_op op_cat (pv 1) (pe_lst (pa_cons (pe_ix ix_tup (pe_tup (pa_cons pe_str (pa_cons pe_str (pa_cons pe_str pa_nil)))) (pe_call (ok_law_draw T) (hr.mono (by decide)) (by rfl) T.m_law_draw T.F_law_draw.kp T.b_law_draw .nil pass0 (pa_cons (pv 0) (pa_cons pe_int pa_nil))) (fun _ _ => rfl)) (pa_cons pe_str (pa_cons pe_str pa_nil))))))))
      (pss_one (ps_ret (pe_tup (pa_cons (pe_op op_cat (pv 1) (pe_lst (pa_cons pe_str pa_nil))) (pa_cons (pe_op op_add pe_int pe_int) (pa_cons (pe_cmpR op_gt (pv 2) pe_int (nomark _)) pa_nil))))))))), ?_⟩
  refine ⟨by show 5 ≤ sizeLine; decide, fun W fW => ?_⟩
  have sW := same_upd (o := .lst ((["var", "x", "9", "round", "r"] : List Str).map V.str)) fW
  have nW := hP.ne fW
  refine ⟨_, rfl, p, c, 9, b, rfl, by decide, by decide, hP.same sW, fun z H1 z0 z1 b1 P1 => ?_⟩
  have eW1 := b1 _ _ nW (upd_same (H := H) (a := W) (o := .lst ((["var", "x", "9", "round", "r"] : List Str).map V.str)))
  refine ⟨_, _, rfl, rfl, _, rfl, 20 + z, rfl, by omega, by omega, for_range (fun i σ' H' => ∃ (W : Addr) (y : Option V) (ks : List Str), σ' = [some (.ref p), some (.ref W), some (.int (20 + z)), y] ∧ Pool H' p c b ∧ W ≠ p ∧ H' W = some (.lst (((["var", "x", "9", "round", "r"] : List Str) ++ brW ks).map V.str)) ∧ (∀ w ∈ ks, w ∈ drawL) ∧ ks.length = i) ⟨W, _, [], rfl, P1, nW, eW1, (fun _ m => by cases m), rfl⟩ ?_ ?_⟩
  · rintro i σ2 H2 hi ⟨W2, y, ks, rfl, P2, n2, e2, hk, lk⟩
    have lb := brW_len ks
    refine ⟨_, rfl, by show 3 ≤ sizeLine; decide, fun U fU => ?_⟩
    have sU := same_upd (o := .tup (drawL.map V.str)) fU
    have nU := P2.ne fU
    have eU := upd_same (H := H2) (a := U) (o := .tup (drawL.map V.str))
    refine ⟨_, rfl, p, c, 3, b, rfl, by decide, by decide, P2.same sU, fun r H3 r0 r1 b3 P3 => ?_⟩
    obtain ⟨w, mw, aw⟩ := pick (ss := drawL) r0 (by show r < 3; omega)
    have e3 := b3 _ _ n2 (sU _ _ e2)
    refine ⟨U, _, r, .str w, rfl, rfl, SqT.of (b3 _ _ nU eU), aw, by show 3 ≤ sizeLine; decide, fun X fX => ?_⟩
    have sX := same_upd (o := .lst (([w, "x", "2"] : List Str).map V.str)) fX
    refine ⟨W2, X, _, _, rfl, rfl, sX _ _ e3, upd_same, small_le (by rw [List.length_map, List.length_append, lb]; show 5 + _ + 3 ≤ _; omega), fun Y fY => ?_⟩
    have sY := same_upd (o := .lst (((["var", "x", "9", "round", "r"] : List Str) ++ brW ks).map V.str ++ [V.str w, .str "x", .str "2"])) fY
    have P5 := (P3.same sX).same sY
    refine ⟨Y, _, ks ++ [w], rfl, P5, (P3.same sX).ne fY, ?_, fun x m => ?_, by rw [List.length_append, lk]; rfl⟩
    · have tk : brW (ks ++ [w]) = brW ks ++ ([w, "x", "2"] : List Str) := by
        unfold brW
        rw [fl_app]
        rfl
      rw [upd_same, tk, ← List.append_assoc, List.map_append (l₂ := ([w, "x", "2"] : List Str))]
      rfl
    · rcases List.mem_append.mp m with m | m
      · exact hk x m
      · rw [List.mem_singleton.mp m]
        exact mw
  · rintro σ2 H2 ⟨W2, y, ks, rfl, P2, n2, e2, hk, lk⟩
    have lb := brW_len ks
    refine ⟨_, rfl, by show 1 ≤ sizeLine; decide, fun X fX => ?_⟩
    have sX := same_upd (o := .lst ((["end"] : List Str).map V.str)) fX
    refine ⟨W2, X, _, _, rfl, rfl, sX _ _ e2, upd_same, small_le (by rw [List.length_map, List.length_append, lb]; show 5 + _ + 1 ≤ _; omega), fun Y fY => ?_⟩
    refine ⟨_, _, rfl, rfl, _, rfl, _, _, rfl, rfl, by show 3 ≤ sizeLine; decide, fun U fU => ?_⟩
    refine q U (brT ks) 77 (decide (24 < ks.length)) _ (brT_bt hk (by omega)) ⟨Y, ?_, ?_⟩
    · have e4 : decide ((24 : Int) < 20 + z) = decide (24 < ks.length) := decide_eq_decide.mpr (by omega)
      rw [upd_same]
      show some (HO.tup [_, _, V.bl (decide ((24 : Int) < 20 + z))]) = _
      rw [e4]
      rfl
    · refine same_upd fU _ _ ?_
      rw [upd_same]
      unfold brT
      rw [List.map_append (l₂ := (["end"] : List Str))]
      rfl
/-! ### _law_deep -/
def sp_law_deep (T : Txt K mg) : Sp := fun vs H Q _ => GenS K vs H Q

theorem ok_law_deep (T : Txt K mg) : FnOk P w K mg base CX0 2 T.a_law_deep T.d_law_deep ["pool"] (sp_law_deep T) := by
  refine T.F_law_deep.ok sc_law_deep (fun vs H Q E h => ?_) (fun cdv A outer s H vs Q E hr h => ?_)
  · obtain ⟨p, c, b, rfl, _⟩ := h
    rfl
  obtain ⟨p, c, b, rfl, hP, q⟩ := h
  refine ⟨_, (pss_cons (ps_set (i := 1) sc_law_deep.nd rfl (by first | exact Or.inl rfl | exact Or.inr rfl) (pe_lst (pa_cons pe_str (pa_cons pe_str (pa_cons pe_str (pa_cons pe_str (pa_cons pe_str pa_nil)))))))
      (pss_cons (ps_set (i := 2) sc_law_deep.nd rfl (by first | exact Or.inl rfl | exact Or.inr rfl) (pe_call (ok_law_draw T) (hr.mono (by decide)) (by rfl) T.m_law_draw T.F_law_draw.kp T.b_law_draw .nil pass0 (pa_cons (pv 0) (pa_cons pe_int pa_nil))))
      (pss_cons (ps_for PassesOwn.never rfl (pi_range1 (by rfl) T.z_range (pa_cons (pv 2) pa_nil)) (pg_name (i := 3) sc_law_deep.nd rfl (by first | exact Or.inl rfl | exact Or.inr rfl)) (pss_one (ps_set (i := 1) sc_law_deep.nd rfl (by first | exact Or.inl rfl | exact Or.inr rfl) (pe_op op_cat (pv 1) (pe_ix ix_tup (pe_tup (pa_cons (pe_lst (pa_cons pe_str (pa_cons pe_str pa_nil))) (pa_cons (pe_lst (pa_cons pe_str (pa_cons pe_str pa_nil))) pa_nil))) (pe_call (ok_law_draw T) (hr.mono (by decide)) (by rfl) T.m_law_draw T.F_law_draw.kp T.b_law_draw .nil pass0 (pa_cons (pv 0) (pa_cons pe_int pa_nil))) (fun _ _ => rfl))))))
      (pss_one (ps_ret (pe_tup (pa_cons (pe_op op_cat (pe_op op_cat (pv 1) (pe_op op_rep (pe_lst (pa_cons pe_str pa_nil)) (pv 2))) (pe_lst (pa_cons pe_str pa_nil))) (pa_cons (pe_op op_add pe_int pe_int) (pa_cons (pe_cmpR op_gt (pv 2) pe_int (nomark _)) pa_nil))))))))), ?_⟩
  refine ⟨by show 5 ≤ sizeLine; decide, fun W fW => ?_⟩
  have sW := same_upd (o := .lst ((["option", "o", "on", "round", "r"] : List Str).map V.str)) fW
  have nW := hP.ne fW
  refine ⟨_, rfl, p, c, 11, b, rfl, by decide, by decide, hP.same sW, fun z H1 z0 z1 b1 P1 => ?_⟩
  have eW1 := b1 _ _ nW (upd_same (H := H) (a := W) (o := .lst ((["option", "o", "on", "round", "r"] : List Str).map V.str)))
  refine ⟨_, rfl, z, rfl, by omega, by omega, for_range (fun i σ' H' => ∃ (W : Addr) (y : Option V) (ts : List Bool), σ' = [some (.ref p), some (.ref W), some (.int z), y] ∧ Pool H' p c b ∧ W ≠ p ∧ H' W = some (.lst (((["option", "o", "on", "round", "r"] : List Str) ++ hdsW ts).map V.str)) ∧ ts.length = i) ⟨W, _, [], rfl, P1, nW, eW1, rfl⟩ ?_ ?_⟩
  · rintro i σ2 H2 hi ⟨W2, y, ts, rfl, P2, n2, e2, lk⟩
    have lb := hdsW_len ts
    refine ⟨_, rfl, by show 2 ≤ sizeLine; decide, fun A1 fA => ⟨by show 2 ≤ sizeLine; decide, fun A2 fB => ⟨by show 2 ≤ sizeLine; decide, fun U fU => ?_⟩⟩⟩
    have sA := same_upd (o := .lst ((hdW false).map V.str)) fA
    have sB := same_upd (o := .lst ((hdW true).map V.str)) fB
    have sU := same_upd (o := .tup [V.ref A1, .ref A2]) fU
    have nA := P2.ne fA
    have PA := P2.same sA
    have nB := PA.ne fB
    have PB := PA.same sB
    have nU := PB.ne fU
    have PU := PB.same sU
    have eA := sU _ _ (sB _ _ (upd_same (H := H2) (a := A1) (o := .lst ((hdW false).map V.str))))
    have eB := sU _ _ (upd_same (H := upd H2 A1 (.lst ((hdW false).map V.str))) (a := A2) (o := .lst ((hdW true).map V.str)))
    have eU := upd_same (H := upd (upd H2 A1 (.lst ((hdW false).map V.str))) A2 (.lst ((hdW true).map V.str))) (a := U) (o := .tup [V.ref A1, .ref A2])
    refine ⟨_, rfl, p, c, 2, b, rfl, by decide, by decide, PU, fun r H3 r0 r1 b3 P3 => ?_⟩
    have e3 := b3 _ _ n2 (sU _ _ (sB _ _ (sA _ _ e2)))
    have eA3 := b3 _ _ nA eA
    have eB3 := b3 _ _ nB eB
    have eU3 := b3 _ _ nU eU
    have tk : ∀ w, hdsW (ts ++ [w]) = hdsW ts ++ hdW w := fun w => by
      unfold hdsW
      rw [fl_app]
      show _ ++ (hdW w ++ []) = _
      rw [List.append_nil]
    have lh : ∀ w, (hdW w).length = 2 := fun w => by cases w <;> rfl
    have way : ∀ (X : Addr) (w : Bool), H3 X = some (.lst ((hdW w).map V.str)) → rCat (.ref W2) (.ref X) H3 fun v H' => ∃ (W : Addr) (y : Option V) (ts : List Bool), [some (V.ref p), some v, some (.int z), some (.int (0 + (i : Int)))] = [some (.ref p), some (.ref W), some (.int z), y] ∧ Pool H' p c b ∧ W ≠ p ∧ H' W = some (.lst (((["option", "o", "on", "round", "r"] : List Str) ++ hdsW ts).map V.str)) ∧ ts.length = i + 1 := fun X w eX => by
      refine ⟨W2, X, _, _, rfl, rfl, e3, eX, small_le (by rw [List.length_map, List.length_append, lb, List.length_map, lh]; show 5 + _ + 2 ≤ _; omega), fun Y fY => ?_⟩
      have sY := same_upd (o := .lst (((["option", "o", "on", "round", "r"] : List Str) ++ hdsW ts).map V.str ++ (hdW w).map V.str)) fY
      refine ⟨Y, _, ts ++ [w], rfl, P3.same sY, P3.ne fY, ?_, by rw [List.length_append, lk]; rfl⟩
      rw [upd_same, tk, ← List.append_assoc, List.map_append (l₂ := hdW w)]
    have r01 : r = 0 ∨ r = 1 := by omega
    rcases r01 with rfl | rfl
    · exact ⟨U, _, 0, .ref A1, rfl, rfl, SqT.of eU3, atI_nat (j := 0) rfl, way A1 false eA3⟩
    · exact ⟨U, _, 1, .ref A2, rfl, rfl, SqT.of eU3, atI_nat (j := 1) rfl, way A2 true eB3⟩
  · rintro σ2 H2 ⟨W2, y, ts, rfl, P2, n2, e2, lk⟩
    have lb := hdsW_len ts
    have zl : z.toNat = ts.length := lk.symm
    refine ⟨_, rfl, by show 1 ≤ sizeLine; decide, fun X fX => ?_⟩
    have sX := same_upd (o := .lst ((["end"] : List Str).map V.str)) fX
    refine ⟨_, rfl, X, z, _, rfl, rfl, upd_same, by omega, by omega, small_le (by show 1 * _ ≤ _; omega), fun R fR => ?_⟩
    have eR : (List.replicate z.toNat ((["end"] : List Str).map V.str)).flatten = (List.replicate ts.length ("end" : Str)).map V.str := by rw [rep_map, rep_one, zl]
    have sR := same_upd (o := .lst (List.replicate z.toNat ((["end"] : List Str).map V.str)).flatten) fR
    refine ⟨W2, R, _, _, rfl, rfl, sR _ _ (sX _ _ e2), upd_same, ?_, fun Y fY => ?_⟩
    · show _ + (List.replicate z.toNat ((["end"] : List Str).map V.str)).flatten.length ≤ _
      rw [eR, List.length_map, List.length_append, lb, List.length_map, List.length_replicate]
      exact small_le (by show 5 + _ + _ ≤ _; omega)
    refine ⟨by show 1 ≤ sizeLine; decide, fun Z fZ => ?_⟩
    have sZ := same_upd (o := .lst ((["end"] : List Str).map V.str)) fZ
    refine ⟨Y, Z, _, _, rfl, rfl, sZ _ _ upd_same, upd_same, ?_, fun D fD => ?_⟩
    · show (_ ++ (List.replicate z.toNat ((["end"] : List Str).map V.str)).flatten).length + 1 ≤ _
      rw [eR, List.length_append, List.length_map, List.length_append, lb, List.length_map, List.length_replicate]
      exact small_le (by show 5 + _ + _ + 1 ≤ _; omega)
    refine ⟨_, _, rfl, rfl, _, rfl, _, _, rfl, rfl, by show 3 ≤ sizeLine; decide, fun U fU => ?_⟩
    refine q U (deepT ts) 21 (decide (8 < ts.length)) _ (deepT_bt (by omega)) ⟨D, ?_, ?_⟩
    · have e4 : decide ((8 : Int) < z) = decide (8 < ts.length) := decide_eq_decide.mpr (by omega)
      rw [upd_same]
      show some (HO.tup [_, _, V.bl (decide ((8 : Int) < z))]) = _
      rw [e4]
      rfl
    · refine same_upd fU _ _ ?_
      rw [upd_same]
      show some (HO.lst ((_ ++ (List.replicate z.toNat ((["end"] : List Str).map V.str)).flatten) ++ (["end"] : List Str).map V.str)) = _
      rw [eR]
      unfold deepT
      simp only [List.map_append, List.append_assoc]
/-! ### _law_deep_expression -/
def sp_law_deep_expression (T : Txt K mg) : Sp := fun vs H Q _ => GenS K vs H Q

theorem ok_law_deep_expression (T : Txt K mg) : FnOk P w K mg base CX0 2 T.a_law_deep_expression T.d_law_deep_expression ["pool"] (sp_law_deep_expression T) := by
  refine T.F_law_deep_expression.ok sc_law_deep_expression (fun vs H Q E h => ?_) (fun cdv A outer s H vs Q E hr h => ?_)
  · obtain ⟨p, c, b, rfl, _⟩ := h
    rfl
  obtain ⟨p, c, b, rfl, hP, q⟩ := h
  refine ⟨_, (pss_cons (ps_set (i := 1) sc_law_deep_expression.nd rfl (by first | exact Or.inl rfl | exact Or.inr rfl) (pe_lst (pa_cons pe_str (pa_cons pe_str (pa_cons pe_str pa_nil)))))
      (pss_cons (ps_set (i := 2) sc_law_deep_expression.nd rfl (by first | exact Or.inl rfl | exact Or.inr rfl) (pe_call (ok_law_draw T) (hr.mono (by decide)) (by rfl) T.m_law_draw T.F_law_draw.kp T.b_law_draw .nil pass0 (pa_cons (pv 0) (pa_cons pe_int pa_nil))))
      (pss_cons (ps_set (i := 3) sc_law_deep_expression.nd rfl (by first | exact Or.inl rfl | exact Or.inr rfl) (pe_ix ix_tup (pe_tup (pa_cons pe_str (pa_cons pe_str (pa_cons pe_str (pa_cons pe_str (pa_cons pe_str (pa_cons pe_str (pa_cons pe_str pa_nil)))))))) (pe_call (ok_law_draw T) (hr.mono (by decide)) (by rfl) T.m_law_draw T.F_law_draw.kp T.b_law_draw .nil pass0 (pa_cons (pv 0) (pa_cons pe_int pa_nil))) (fun _ _ => rfl)))
      (pss_cons (ps_if (pt_cmpR op_eq (pe_call (ok_law_draw T) (hr.mono (by decide)) (by rfl) T.m_law_draw T.F_law_draw.kp T.b_law_draw .nil pass0 (pa_cons (pv 0) (pa_cons pe_int pa_nil))) pe_int (nomark _)) (pss_one (ps_ret (pe_tup (pa_cons (pe_op op_cat (pe_op op_cat (pv 1) (pe_op op_rep (pe_lst (pa_cons (pv 3) (pa_cons pe_str pa_nil))) (pv 2))) (pe_lst (pa_cons pe_str (pa_cons pe_str pa_nil)))) (pa_cons (pe_op op_add pe_int pe_int) (pa_cons (pe_cmpR op_gt (pv 2) pe_int (nomark _)) pa_nil)))))) pss_nil)
      (pss_one (ps_ret (pe_tup (pa_cons (pe_op op_cat (pe_op op_cat (pe_op op_cat (pv 1) (pe_op op_rep (pe_lst (pa_cons (pv 3) pa_nil)) (pv 2))) (pe_op op_rep (pe_lst (pa_cons pe_str pa_nil)) (pe_op op_add (pv 2) pe_int))) (pe_lst (pa_cons pe_str pa_nil))) (pa_cons (pe_op op_add pe_int pe_int) (pa_cons (pe_cmpR op_gt (pv 2) pe_int (nomark _)) pa_nil)))))))))), ?_⟩
  refine ⟨by show 3 ≤ sizeLine; decide, fun W fW => ?_⟩
  have sW := same_upd (o := .lst ((["round", "r", "pay"] : List Str).map V.str)) fW
  have nW := hP.ne fW
  refine ⟨_, rfl, p, c, 15, b, rfl, by decide, by decide, hP.same sW, fun z H1 z0 z1 b1 P1 => ?_⟩
  have eW1 := b1 _ _ nW (upd_same (H := H) (a := W) (o := .lst ((["round", "r", "pay"] : List Str).map V.str)))
  obtain ⟨n, rfl⟩ := Int.eq_ofNat_of_zero_le z0
  refine ⟨by show 7 ≤ sizeLine; decide, fun U fU => ?_⟩
  have sU := same_upd (o := .tup (opL.map V.str)) fU
  have nU := P1.ne fU
  have eU := upd_same (H := H1) (a := U) (o := .tup (opL.map V.str))
  refine ⟨_, rfl, p, c, 7, b, rfl, by decide, by decide, P1.same sU, fun r H2 r0 r1 b2 P2 => ?_⟩
  obtain ⟨w, mw, aw⟩ := pick (ss := opL) r0 (by show r < 7; omega)
  refine ⟨U, _, r, .str w, rfl, rfl, SqT.of (b2 _ _ nU eU), aw, ?_⟩
  have eW2 := b2 _ _ nW (sU _ _ eW1)
  refine ⟨_, rfl, p, c, 2, b, rfl, by decide, by decide, P2, fun t H3 t0 t1 b3 P3 => ⟨rfl, _, rfl, ite2 (fun _ => ?_) (fun _ => ?_)⟩⟩
  · have e3 := b3 _ _ nW eW2
    have rl : ((List.replicate n ([w, "1"] : List Str)).flatten).length = 2 * n := by
      simp
      omega
    have eR : (List.replicate (((n : Nat) : Int)).toNat (([w, "1"] : List Str).map V.str)).flatten = ((List.replicate n ([w, "1"] : List Str)).flatten).map V.str := by rw [rep_map, Int.toNat_natCast]
    refine ⟨_, rfl, _, rfl, by show 2 ≤ sizeLine; decide, fun X fX => ?_⟩
    have sX := same_upd (o := .lst (([w, "1"] : List Str).map V.str)) fX
    refine ⟨_, rfl, X, ((n : Nat) : Int), _, rfl, rfl, upd_same, by omega, by omega, small_le (by show 2 * _ ≤ _; omega), fun R fR => ?_⟩
    have sR := same_upd (o := .lst (List.replicate (((n : Nat) : Int)).toNat (([w, "1"] : List Str).map V.str)).flatten) fR
    refine ⟨W, R, _, _, rfl, rfl, sR _ _ (sX _ _ e3), upd_same, ?_, fun Y fY => ?_⟩
    · show _ + (List.replicate (((n : Nat) : Int)).toNat (([w, "1"] : List Str).map V.str)).flatten.length ≤ _
      rw [eR, List.length_map, List.length_map, rl]
      exact small_le (by show 3 + _ ≤ _; omega)
    refine ⟨by show 2 ≤ sizeLine; decide, fun Z fZ => ?_⟩
    have sZ := same_upd (o := .lst ((["1", "end"] : List Str).map V.str)) fZ
    refine ⟨Y, Z, _, _, rfl, rfl, sZ _ _ upd_same, upd_same, ?_, fun D fD => ?_⟩
    · show (_ ++ (List.replicate (((n : Nat) : Int)).toNat (([w, "1"] : List Str).map V.str)).flatten).length + 2 ≤ _
      rw [eR, List.length_append, List.length_map, List.length_map, rl]
      exact small_le (by show 3 + _ + 2 ≤ _; omega)
    refine ⟨_, _, rfl, rfl, _, rfl, _, _, rfl, rfl, by show 3 ≤ sizeLine; decide, fun V1 fV => ?_⟩
    refine q V1 (exprT (rgt w n)) 25 (decide (11 < n)) _ (rgt_bt mw (by omega)) ⟨D, ?_, ?_⟩
    · have e4 : decide ((11 : Int) < ((n : Nat) : Int)) = decide (11 < n) := decide_eq_decide.mpr (by omega)
      rw [upd_same]
      show some (HO.tup [_, _, V.bl (decide ((11 : Int) < ((n : Nat) : Int)))]) = _
      rw [e4]
      rfl
    · refine same_upd fV _ _ ?_
      rw [upd_same]
      show some (HO.lst ((_ ++ (List.replicate (((n : Nat) : Int)).toNat (([w, "1"] : List Str).map V.str)).flatten) ++ (["1", "end"] : List Str).map V.str)) = _
      rw [eR]
      unfold exprT
      rw [rgt_w]
      simp only [List.map_append, List.append_assoc]
      rfl
  · have e3 := b3 _ _ nW eW2
    have eR : (List.replicate (((n : Nat) : Int)).toNat (([w] : List Str).map V.str)).flatten = (List.replicate n w).map V.str := by rw [rep_map, rep_one, Int.toNat_natCast]
    have eT : (List.replicate (((n : Nat) : Int) + 1).toNat ((["1"] : List Str).map V.str)).flatten = (List.replicate (n + 1) ("1" : Str)).map V.str := by rw [rep_map, rep_one, show (((n : Nat) : Int) + 1).toNat = n + 1 by omega]
    refine ⟨_, rfl, _, rfl, by show 1 ≤ sizeLine; decide, fun X fX => ?_⟩
    have sX := same_upd (o := .lst (([w] : List Str).map V.str)) fX
    refine ⟨_, rfl, X, ((n : Nat) : Int), _, rfl, rfl, upd_same, by omega, by omega, small_le (by show 1 * _ ≤ _; omega), fun R fR => ?_⟩
    have sR := same_upd (o := .lst (List.replicate (((n : Nat) : Int)).toNat (([w] : List Str).map V.str)).flatten) fR
    refine ⟨W, R, _, _, rfl, rfl, sR _ _ (sX _ _ e3), upd_same, ?_, fun Y fY => ?_⟩
    · show _ + (List.replicate (((n : Nat) : Int)).toNat (([w] : List Str).map V.str)).flatten.length ≤ _
      rw [eR, List.length_map, List.length_map, List.length_replicate]
      exact small_le (by show 3 + _ ≤ _; omega)
    refine ⟨by show 1 ≤ sizeLine; decide, fun Z fZ => ?_⟩
    have sZ := same_upd (o := .lst ((["1"] : List Str).map V.str)) fZ
    refine ⟨_, rfl, _, _, rfl, rfl, Z, ((n : Nat) : Int) + 1, _, rfl, rfl, upd_same, by omega, by omega, small_le (by show 1 * _ ≤ _; omega), fun R2 fR2 => ?_⟩
    have sR2 := same_upd (o := .lst (List.replicate (((n : Nat) : Int) + 1).toNat ((["1"] : List Str).map V.str)).flatten) fR2
    refine ⟨Y, R2, _, _, rfl, rfl, sR2 _ _ (sZ _ _ upd_same), upd_same, ?_, fun Y2 fY2 => ?_⟩
    · show (_ ++ (List.replicate (((n : Nat) : Int)).toNat (([w] : List Str).map V.str)).flatten).length + (List.replicate (((n : Nat) : Int) + 1).toNat ((["1"] : List Str).map V.str)).flatten.length ≤ _
      rw [eR, eT, List.length_append, List.length_map, List.length_map, List.length_map, List.length_replicate, List.length_replicate]
      exact small_le (by show 3 + _ + _ ≤ _; omega)
    refine ⟨by show 1 ≤ sizeLine; decide, fun Z3 fZ3 => ?_⟩
    have sZ3 := same_upd (o := .lst ((["end"] : List Str).map V.str)) fZ3
    refine ⟨Y2, Z3, _, _, rfl, rfl, sZ3 _ _ upd_same, upd_same, ?_, fun D fD => ?_⟩
    · show ((_ ++ (List.replicate (((n : Nat) : Int)).toNat (([w] : List Str).map V.str)).flatten) ++ (List.replicate (((n : Nat) : Int) + 1).toNat ((["1"] : List Str).map V.str)).flatten).length + 1 ≤ _
      rw [eR, eT, List.length_append, List.length_append, List.length_map, List.length_map, List.length_map, List.length_replicate, List.length_replicate]
      exact small_le (by show 3 + _ + _ + 1 ≤ _; omega)
    refine ⟨_, _, rfl, rfl, _, rfl, _, _, rfl, rfl, by show 3 ≤ sizeLine; decide, fun V1 fV => ?_⟩
    refine q V1 (exprT (lft w n)) 14 (decide (11 < n)) _ (lft_bt mw (by omega)) ⟨D, ?_, ?_⟩
    · have e4 : decide ((11 : Int) < ((n : Nat) : Int)) = decide (11 < n) := decide_eq_decide.mpr (by omega)
      rw [upd_same]
      show some (HO.tup [_, _, V.bl (decide ((11 : Int) < ((n : Nat) : Int)))]) = _
      rw [e4]
      rfl
    · refine same_upd fV _ _ ?_
      rw [upd_same]
      show some (HO.lst (((_ ++ (List.replicate (((n : Nat) : Int)).toNat (([w] : List Str).map V.str)).flatten) ++ (List.replicate (((n : Nat) : Int) + 1).toNat ((["1"] : List Str).map V.str)).flatten) ++ (["end"] : List Str).map V.str)) = _
      rw [eR, eT]
      unfold exprT
      rw [lft_w]
      simp only [List.map_append, List.append_assoc]
/-! ### _law_number_words -/
theorem num_log {n : Nat} (h : n < 100000) : (((n : Nat) : Int)).natAbs.log2 < 1920 := log_small (Nat.lt_trans h (by decide +kernel))
def sp_law_number_words (T : Txt K mg) : Sp := fun vs H Q _ => GenS K vs H Q

theorem ok_law_number_words (T : Txt K mg) : FnOk P w K mg base CX0 2 T.a_law_number_words T.d_law_number_words ["pool"] (sp_law_number_words T) := by
  refine T.F_law_number_words.ok sc_law_number_words (fun vs H Q E h => ?_) (fun cdv A outer s H vs Q E hr h => ?_)
  · obtain ⟨p, c, b, rfl, _⟩ := h
    rfl
  obtain ⟨p, c, b, rfl, hP, q⟩ := h
  refine ⟨_, (pss_cons (ps_set (i := 1) sc_law_number_words.nd rfl (by first | exact Or.inl rfl | exact Or.inr rfl) (pe_call (ok_law_draw T) (hr.mono (by decide)) (by rfl) T.m_law_draw T.F_law_draw.kp T.b_law_draw .nil pass0 (pa_cons (pv 0) (pa_cons pe_int pa_nil))))
      (pss_cons (ps_set (i := 2) sc_law_number_words.nd rfl (by first | exact Or.inl rfl | exact Or.inr rfl) (pe_ix ix_tup (pe_tup (pa_cons pe_int (pa_cons pe_int (pa_cons pe_int (pa_cons pe_int pa_nil))))) (pv 1) (fun _ _ => rfl)))
      (pss_cons (ps_set (i := 3) sc_law_number_words.nd rfl (by first | exact Or.inl rfl | exact Or.inr rfl) (pe_call (ok_law_draw T) (hr.mono (by decide)) (by rfl) T.m_law_draw T.F_law_draw.kp T.b_law_draw .nil pass0 (pa_cons (pv 0) (pa_cons (pe_op op_add (pv 2) pe_int) pa_nil))))
      (C8.pss_cut (ps_if (pt_cmpR op_eq (pe_call (ok_law_draw T) (hr.mono (by decide)) (by rfl) T.m_law_draw T.F_law_draw.kp T.b_law_draw .nil pass0 (pa_cons (pv 0) (pa_cons pe_int pa_nil))) pe_int (nomark _)) (pss_one (ps_set (i := 3) sc_law_number_words.nd rfl (by first | exact Or.inl rfl | exact Or.inr rfl) (pe_ix ix_tup (pe_tup (pa_cons pe_int (pa_cons pe_int (pa_cons (pe_op op_sub (pv 2) pe_int) (pa_cons (pv 2) (pa_cons (pe_op op_add (pv 2) pe_int) pa_nil)))))) (pe_call (ok_law_draw T) (hr.mono (by decide)) (by rfl) T.m_law_draw T.F_law_draw.kp T.b_law_draw .nil pass0 (pa_cons (pv 0) (pa_cons pe_int pa_nil))) (fun _ _ => rfl)))) pss_nil)
      (C8.pss_cut (ps_set (i := 4) sc_law_number_words.nd rfl (by first | exact Or.inl rfl | exact Or.inr rfl) (pe_or (pe_cmpR op_eq (pv 3) pe_int (nomark _)) (pe_one (pe_cmpR op_gt (pv 3) (pv 2) (nomark _)))))
      (pss_cons (ps_if (pt_cmpR op_eq (pv 1) pe_int (nomark _)) (pss_one (ps_ret (pe_tup (pa_cons (pe_lst (pa_cons pe_str (pa_cons pe_str (pa_cons (pe_callTy call_str_int (by rfl) T.z_str (by first | exact PySem.boot_str | decide +kernel) (pa_cons (pv 3) pa_nil)) pa_nil)))) (pa_cons pe_int (pa_cons (pv 4) pa_nil)))))) pss_nil)
      (pss_cons (ps_set (i := 5) sc_law_number_words.nd rfl (by first | exact Or.inl rfl | exact Or.inr rfl) (pe_lst (pa_cons pe_str (pa_cons pe_str (pa_cons pe_str (pa_cons pe_str (pa_cons pe_str (pa_cons (pe_ix ix_tup (pe_tup (pa_cons pe_str (pa_cons pe_str (pa_cons pe_str pa_nil)))) (pe_op op_sub (pv 1) pe_int) (fun _ _ => rfl)) (pa_cons pe_str (pa_cons (pe_callTy call_str_int (by rfl) T.z_str (by first | exact PySem.boot_str | decide +kernel) (pa_cons (pv 3) pa_nil)) (pa_cons pe_str pa_nil)))))))))))
      (pss_one (ps_ret (pe_tup (pa_cons (pv 5) (pa_cons pe_int (pa_cons (pv 4) pa_nil))))))))))))), ?_⟩
  refine ⟨_, rfl, p, c, 4, b, rfl, by decide, by decide, hP, fun kd H1 k0 k1 b1 P1 => ?_⟩
  refine ⟨by show 4 ≤ sizeLine; decide, fun U fU => ?_⟩
  have sU := same_upd (o := .tup [V.int 65535, .int 64, .int 8, .int 8]) fU
  have P2 := P1.same sU
  obtain ⟨bd, ab, hb⟩ : ∃ bd : Nat, atI [V.int 65535, .int 64, .int 8, .int 8] kd = some (.int ((bd : Nat) : Int)) ∧ ((kd = 0 ∧ bd = 65535) ∨ (kd = 1 ∧ bd = 64) ∨ ((kd = 2 ∨ kd = 3) ∧ bd = 8)) := by
    have : kd = 0 ∨ kd = 1 ∨ kd = 2 ∨ kd = 3 := by omega
    rcases this with rfl | rfl | rfl | rfl
    · exact ⟨65535, atI_nat (j := 0) rfl, .inl ⟨rfl, rfl⟩⟩
    · exact ⟨64, atI_nat (j := 1) rfl, .inr (.inl ⟨rfl, rfl⟩)⟩
    · exact ⟨8, atI_nat (j := 2) rfl, .inr (.inr ⟨.inl rfl, rfl⟩)⟩
    · exact ⟨8, atI_nat (j := 3) rfl, .inr (.inr ⟨.inr rfl, rfl⟩)⟩
  refine ⟨_, rfl, U, _, kd, .int ((bd : Nat) : Int), rfl, rfl, SqT.of upd_same, ab, ?_⟩
  refine ⟨_, rfl, _, rfl, _, _, rfl, rfl, p, c, _, b, rfl, by omega, by omega, P2, fun z H3 z0 z1 b3 P3 => ?_⟩
  obtain ⟨n0, rfl⟩ := Int.eq_ofNat_of_zero_le z0
  refine ⟨fun σ' H' => ∃ n : Nat, σ' = [some (.ref p), some (.int kd), some (.int ((bd : Nat) : Int)), some (.int ((n : Nat) : Int)), none, none] ∧ Pool H' p c b ∧ n ≤ bd + 1, ?_, ?_⟩
  · refine ⟨_, rfl, p, c, 2, b, rfl, by decide, by decide, P3, fun t H4 t0 t1 b4 P4 => ⟨rfl, _, rfl, ite2 (fun _ => ?_) (fun _ => ?_)⟩⟩
    · refine ⟨_, rfl, _, _, rfl, rfl, _, rfl, _, rfl, _, _, rfl, rfl, by show 5 ≤ sizeLine; decide, fun X fX => ?_⟩
      have sX := same_upd (o := .tup [V.int 0, .int 1, .int (((bd : Nat) : Int) - 1), .int ((bd : Nat) : Int), .int (((bd : Nat) : Int) + 1)]) fX
      have nX := P4.ne fX
      refine ⟨_, rfl, p, c, 5, b, rfl, by decide, by decide, P4.same sX, fun r H5 r0 r1 b5 P5 => ?_⟩
      have eX := b5 _ _ nX (upd_same (H := H4) (a := X) (o := .tup [V.int 0, .int 1, .int (((bd : Nat) : Int) - 1), .int ((bd : Nat) : Int), .int (((bd : Nat) : Int) + 1)]))
      obtain ⟨n, an, hn⟩ : ∃ n : Nat, atI [V.int 0, .int 1, .int (((bd : Nat) : Int) - 1), .int ((bd : Nat) : Int), .int (((bd : Nat) : Int) + 1)] r = some (.int ((n : Nat) : Int)) ∧ n ≤ bd + 1 := by
        have b8 : 8 ≤ bd := by omega
        have : r = 0 ∨ r = 1 ∨ r = 2 ∨ r = 3 ∨ r = 4 := by omega
        rcases this with rfl | rfl | rfl | rfl | rfl
        · exact ⟨0, atI_nat (j := 0) rfl, by omega⟩
        · exact ⟨1, atI_nat (j := 1) rfl, by omega⟩
        · refine ⟨bd - 1, ?_, by omega⟩
          rw [show ((bd - 1 : Nat) : Int) = ((bd : Nat) : Int) - 1 by omega]
          exact atI_nat (j := 2) rfl
        · exact ⟨bd, atI_nat (j := 3) rfl, by omega⟩
        · refine ⟨bd + 1, ?_, by omega⟩
          rw [show ((bd + 1 : Nat) : Int) = ((bd : Nat) : Int) + 1 by omega]
          exact atI_nat (j := 4) rfl
      exact ⟨X, _, r, _, rfl, rfl, SqT.of eX, an, n, rfl, P5, hn⟩
    · exact ⟨n0, rfl, P4, by omega⟩
  rintro σ6 H6 ⟨n, rfl, P6, hn⟩
  refine ⟨fun σ' H' => σ' = [some (.ref p), some (.int kd), some (.int ((bd : Nat) : Int)), some (.int ((n : Nat) : Int)), some (.bl (decide (n = 0 ∨ bd < n))), none] ∧ H' = H6, ?_, ?_⟩
  · refine ⟨_, rfl, rfl, _, rfl, ite2 (fun z => ?_) (fun z => ?_)⟩
    · have z' := V.int.inj (of_decide_eq_true z)
      have e : decide (n = 0 ∨ bd < n) = true := decide_eq_true (.inl (by omega))
      exact ⟨by rw [e]; rfl, rfl⟩
    · have z' : ¬ n = 0 := fun y => z (decide_eq_true (by rw [y]; rfl))
      have e : decide (((bd : Nat) : Int) < ((n : Nat) : Int)) = decide (n = 0 ∨ bd < n) := decide_eq_decide.mpr (by omega)
      refine ⟨_, rfl, _, rfl, _, _, rfl, rfl, ?_, rfl⟩
      show [_, _, _, _, some (V.bl (decide (((bd : Nat) : Int) < ((n : Nat) : Int)))), _] = _
      rw [e]
  rintro σ7 H7 ⟨rfl, rfl⟩
  have lg := num_log (n := n) (by omega)
  refine ⟨_, rfl, rfl, _, rfl, ite2 (fun z => ?_) (fun z => ?_)⟩
  · have z' : kd = 0 := V.int.inj (of_decide_eq_true z)
    have b6 : bd = 65535 := by omega
    subst b6
    refine ⟨_, rfl, _, rfl, lg, by show 3 ≤ sizeLine; decide, fun X fX => ?_⟩
    refine ⟨_, rfl, by show 3 ≤ sizeLine; decide, fun V1 fV => ?_⟩
    exact q V1 (szT n) 2 _ _ (szT_bt (by omega)) ⟨X, upd_same, same_upd fV _ _ upd_same⟩
  · have z' : kd ≠ 0 := fun y => z (decide_eq_true (by rw [y]))
    refine ⟨by show 3 ≤ sizeLine; decide, fun D fD => ?_⟩
    obtain ⟨w, mw, aw⟩ := pick (ss := drawL) (r := kd - 1) (by omega) (by show kd - 1 < 3; omega)
    have wb : (if w = "draw" then 64 else 8) = bd := by
      have kn : ∀ x : Str, atI (drawL.map V.str) (kd - 1) = some (.str x) → x = w := fun x e => V.str.inj (Option.some.inj (e.symm.trans aw))
      rcases hb with ⟨y, _⟩ | ⟨rfl, rfl⟩ | ⟨rfl | rfl, rfl⟩
      · exact absurd y z'
      · rw [← kn "draw" (atI_nat (j := 0) rfl), if_pos rfl]
      · rw [← kn "first" (atI_nat (j := 1) rfl), if_neg (by decide +kernel)]
      · rw [← kn "second" (atI_nat (j := 2) rfl), if_neg (by decide +kernel)]
    refine ⟨_, rfl, _, _, rfl, rfl, D, _, kd - 1, .str w, rfl, rfl, SqT.of upd_same, aw, _, rfl, _, rfl, lg, by show 9 ≤ sizeLine; decide, fun X fX => ?_⟩
    refine ⟨_, rfl, _, rfl, by show 3 ≤ sizeLine; decide, fun V1 fV => ?_⟩
    have bt := chT_bt mw (n := n) (by omega)
    rw [wb] at bt
    exact q V1 (chT w n) 7 _ _ bt ⟨X, upd_same, same_upd fV _ _ upd_same⟩
/-! ### _law_else -/
def sp_law_else (T : Txt K mg) : Sp := fun vs H Q _ => GenS K vs H Q

theorem ok_law_else (T : Txt K mg) : FnOk P w K mg base CX0 2 T.a_law_else T.d_law_else ["pool"] (sp_law_else T) := by
  refine T.F_law_else.ok sc_law_else (fun vs H Q E h => ?_) (fun cdv A outer s H vs Q E hr h => ?_)
  · obtain ⟨p, c, b, rfl, _⟩ := h
    rfl
  obtain ⟨p, c, b, rfl, hP, q⟩ := h
  refine ⟨_, (pss_cons (ps_set (i := 1) sc_law_else.nd rfl (by first | exact Or.inl rfl | exact Or.inr rfl) (pe_lst (pa_cons pe_str (pa_cons pe_str pa_nil))))
      (C8.pss_cut (ps_if (pt_cmpR op_eq (pe_call (ok_law_draw T) (hr.mono (by decide)) (by rfl) T.m_law_draw T.F_law_draw.kp T.b_law_draw .nil pass0 (pa_cons (pv 0) (pa_cons pe_int pa_nil))) pe_int (nomark _)) (pss_one (ps_set (i := 1) sc_law_else.nd rfl (by first | exact Or.inl rfl | exact Or.inr rfl) (pe_lst (pa_cons pe_str (pa_cons pe_str pa_nil))))) pss_nil)
      (pss_cons (ps_set (i := 2) sc_law_else.nd rfl (by first | exact Or.inl rfl | exact Or.inr rfl) (pe_op op_cat (pe_op op_cat (pe_op op_cat (pe_lst (pa_cons pe_str (pa_cons pe_str (pa_cons pe_str (pa_cons pe_str (pa_cons pe_str pa_nil)))))) (pv 1)) (pe_op op_rep (pe_lst (pa_cons pe_str (pa_cons pe_str pa_nil))) (pe_call (ok_law_draw T) (hr.mono (by decide)) (by rfl) T.m_law_draw T.F_law_draw.kp T.b_law_draw .nil pass0 (pa_cons (pv 0) (pa_cons pe_int pa_nil))))) (pe_lst (pa_cons pe_str pa_nil))))
      (pss_cons (ps_set (i := 3) sc_law_else.nd rfl (by first | exact Or.inl rfl | exact Or.inr rfl) (pe_call (ok_law_draw T) (hr.mono (by decide)) (by rfl) T.m_law_draw T.F_law_draw.kp T.b_law_draw .nil pass0 (pa_cons (pv 0) (pa_cons pe_int pa_nil))))
      (pss_one (ps_ret (pe_tup (pa_cons (pe_op op_cat (pe_op op_cat (pv 2) (pe_op op_rep (pe_lst (pa_cons pe_str (pa_cons pe_str pa_nil))) (pv 3))) (pe_lst (pa_cons pe_str (pa_cons pe_str pa_nil)))) (pa_cons (pe_callB call_len_seq (by rfl) T.z_len (by first | exact PySem.boot_len | decide +kernel) (pa_cons (pv 2) pa_nil)) (pa_cons (pe_cmpR op_eq (pv 3) pe_int (nomark _)) pa_nil)))))))))), ?_⟩
  refine ⟨by show 2 ≤ sizeLine; decide, fun W fW => ?_⟩
  have sW := same_upd (o := .lst ((hdW false).map V.str)) fW
  have nW := hP.ne fW
  have P1 := hP.same sW
  refine ⟨fun σ' H' => ∃ (W : Addr) (w : Bool), σ' = [some (.ref p), some (.ref W), none, none] ∧ Pool H' p c b ∧ W ≠ p ∧ H' W = some (.lst ((hdW w).map V.str)), ?_, ?_⟩
  · refine ⟨_, rfl, p, c, 2, b, rfl, by decide, by decide, P1, fun t H4 t0 t1 b4 P4 => ⟨rfl, _, rfl, ite2 (fun _ => ?_) (fun _ => ?_)⟩⟩
    · refine ⟨by show 2 ≤ sizeLine; decide, fun X fX => ?_⟩
      exact ⟨X, true, rfl, P4.same (same_upd fX), P4.ne fX, upd_same⟩
    · exact ⟨W, false, rfl, P4, nW, b4 _ _ nW upd_same⟩
  clear nW sW fW P1
  clear W
  rintro σ2 H2 ⟨W, w, rfl, P2, nW, eW⟩
  have lh : (hdW w).length = 2 := by cases w <;> rfl
  refine ⟨by show 5 ≤ sizeLine; decide, fun X fX => ?_⟩
  have sX := same_upd (o := .lst ((["option", "o", "off", "round", "r"] : List Str).map V.str)) fX
  refine ⟨_, rfl, X, W, _, _, rfl, rfl, upd_same, sX _ _ eW, small_le (by show 5 + _ ≤ _; rw [List.length_map, lh]; decide), fun Y fY => ?_⟩
  have sY := same_upd (o := .lst ((["option", "o", "off", "round", "r"] : List Str).map V.str ++ (hdW w).map V.str)) fY
  have P4 := (P2.same sX).same sY
  have nY := (P2.same sX).ne fY
  refine ⟨by show 2 ≤ sizeLine; decide, fun Z fZ => ?_⟩
  have sZ := same_upd (o := .lst ((["take", "5"] : List Str).map V.str)) fZ
  have nZ := P4.ne fZ
  have eY := sZ _ _ (upd_same (H := upd H2 X (.lst ((["option", "o", "off", "round", "r"] : List Str).map V.str))) (a := Y) (o := .lst ((["option", "o", "off", "round", "r"] : List Str).map V.str ++ (hdW w).map V.str)))
  have eZ := upd_same (H := upd (upd H2 X (.lst ((["option", "o", "off", "round", "r"] : List Str).map V.str))) Y (.lst ((["option", "o", "off", "round", "r"] : List Str).map V.str ++ (hdW w).map V.str))) (a := Z) (o := .lst ((["take", "5"] : List Str).map V.str))
  refine ⟨_, rfl, p, c, 3, b, rfl, by decide, by decide, P4.same sZ, fun z H5 z0 z1 b5 P5 => ?_⟩
  obtain ⟨t, rfl⟩ := Int.eq_ofNat_of_zero_le z0
  have eY5 := b5 _ _ nY eY
  have eZ5 := b5 _ _ nZ eZ
  clear eY eZ
  have fl2 : ∀ (n : Nat) (x y : Str), ((List.replicate n ([x, y] : List Str)).flatten).length = 2 * n := fun n x y => by
    simp
    omega
  have eR : (List.replicate (((t : Nat) : Int)).toNat ((["take", "5"] : List Str).map V.str)).flatten = ((List.replicate t (["take", "5"] : List Str)).flatten).map V.str := by rw [rep_map, Int.toNat_natCast]
  refine ⟨Z, ((t : Nat) : Int), _, rfl, rfl, eZ5, by omega, by omega, small_le (by show 2 * _ ≤ _; omega), fun R fR => ?_⟩
  have sR := same_upd (o := .lst (List.replicate (((t : Nat) : Int)).toNat ((["take", "5"] : List Str).map V.str)).flatten) fR
  refine ⟨Y, R, _, _, rfl, rfl, sR _ _ eY5, upd_same, ?_, fun A1 fA1 => ?_⟩
  · show _ + (List.replicate (((t : Nat) : Int)).toNat ((["take", "5"] : List Str).map V.str)).flatten.length ≤ _
    rw [eR, List.length_append, List.length_map, List.length_map, List.length_map, fl2, lh]
    exact small_le (by show 5 + 2 + _ ≤ _; omega)
  have sA1 := same_upd (o := .lst (((["option", "o", "off", "round", "r"] : List Str).map V.str ++ (hdW w).map V.str) ++ (List.replicate (((t : Nat) : Int)).toNat ((["take", "5"] : List Str).map V.str)).flatten)) fA1
  refine ⟨by show 1 ≤ sizeLine; decide, fun B1 fB1 => ?_⟩
  have sB1 := same_upd (o := .lst [V.str "else"]) fB1
  refine ⟨A1, B1, _, _, rfl, rfl, sB1 _ _ upd_same, upd_same, ?_, fun C1 fC1 => ?_⟩
  · show (_ ++ (List.replicate (((t : Nat) : Int)).toNat ((["take", "5"] : List Str).map V.str)).flatten).length + 1 ≤ _
    rw [eR, List.length_append, List.length_append, List.length_map, List.length_map, List.length_map, fl2, lh]
    exact small_le (by show 5 + 2 + _ + 1 ≤ _; omega)
  have sC1 := same_upd (o := .lst ((((["option", "o", "off", "round", "r"] : List Str).map V.str ++ (hdW w).map V.str) ++ (List.replicate (((t : Nat) : Int)).toNat ((["take", "5"] : List Str).map V.str)).flatten) ++ [V.str "else"])) fC1
  have P6 := ((P5.same sR).same sA1).same sB1
  have nC := P6.ne fC1
  have P7 := P6.same sC1
  have eC : upd (upd (upd (upd H5 R (.lst (List.replicate (((t : Nat) : Int)).toNat ((["take", "5"] : List Str).map V.str)).flatten)) A1 (.lst (((["option", "o", "off", "round", "r"] : List Str).map V.str ++ (hdW w).map V.str) ++ (List.replicate (((t : Nat) : Int)).toNat ((["take", "5"] : List Str).map V.str)).flatten))) B1 (.lst [V.str "else"])) C1 (.lst ((((["option", "o", "off", "round", "r"] : List Str).map V.str ++ (hdW w).map V.str) ++ (List.replicate (((t : Nat) : Int)).toNat ((["take", "5"] : List Str).map V.str)).flatten) ++ [V.str "else"])) C1 = some (.lst (((["option", "o", "off", "round", "r"] : List Str) ++ hdW w ++ (List.replicate t (["take", "5"] : List Str)).flatten ++ (["else"] : List Str)).map V.str)) := by
    rw [upd_same, eR, List.map_append (l₂ := (["else"] : List Str)), List.map_append (l₂ := (List.replicate t (["take", "5"] : List Str)).flatten), List.map_append (l₂ := hdW w)]
    rfl
  revert eC P7
  generalize upd (upd (upd (upd H5 R (.lst (List.replicate (((t : Nat) : Int)).toNat ((["take", "5"] : List Str).map V.str)).flatten)) A1 (.lst (((["option", "o", "off", "round", "r"] : List Str).map V.str ++ (hdW w).map V.str) ++ (List.replicate (((t : Nat) : Int)).toNat ((["take", "5"] : List Str).map V.str)).flatten))) B1 (.lst [V.str "else"])) C1 (.lst ((((["option", "o", "off", "round", "r"] : List Str).map V.str ++ (hdW w).map V.str) ++ (List.replicate (((t : Nat) : Int)).toNat ((["take", "5"] : List Str).map V.str)).flatten) ++ [V.str "else"])) = H7
  intro P7 eC
  have lB : ((["option", "o", "off", "round", "r"] : List Str) ++ hdW w ++ (List.replicate t (["take", "5"] : List Str)).flatten ++ (["else"] : List Str)).length = 8 + 2 * t := by
    rw [List.length_append, List.length_append, List.length_append, fl2, lh]
    show 5 + 2 + _ + 1 = _
    omega
  revert eC lB
  generalize eB : ((["option", "o", "off", "round", "r"] : List Str) ++ hdW w ++ (List.replicate t (["take", "5"] : List Str)).flatten ++ (["else"] : List Str)) = B
  intro eC lB
  clear sC1 sB1 sA1 sR fC1 fB1 fA1 fR P6 eY5 eZ5
  refine ⟨_, rfl, p, c, 4, b, rfl, by decide, by decide, P7, fun z H8 y0 y1 b8 P8 => ?_⟩
  obtain ⟨k, rfl⟩ := Int.eq_ofNat_of_zero_le y0
  have eC8 := b8 _ _ nC eC
  have eK : (List.replicate (((k : Nat) : Int)).toNat ((["pay", "2"] : List Str).map V.str)).flatten = ((List.replicate k (["pay", "2"] : List Str)).flatten).map V.str := by rw [rep_map, Int.toNat_natCast]
  refine ⟨_, rfl, by show 2 ≤ sizeLine; decide, fun D1 fD1 => ?_⟩
  have sD1 := same_upd (o := .lst ((["pay", "2"] : List Str).map V.str)) fD1
  refine ⟨_, rfl, D1, ((k : Nat) : Int), _, rfl, rfl, upd_same, by omega, by omega, small_le (by show 2 * _ ≤ _; omega), fun R fR => ?_⟩
  have sR := same_upd (o := .lst (List.replicate (((k : Nat) : Int)).toNat ((["pay", "2"] : List Str).map V.str)).flatten) fR
  refine ⟨C1, R, _, _, rfl, rfl, sR _ _ (sD1 _ _ eC8), upd_same, ?_, fun A1 fA1 => ?_⟩
  · show _ + (List.replicate (((k : Nat) : Int)).toNat ((["pay", "2"] : List Str).map V.str)).flatten.length ≤ _
    rw [eK, List.length_map, List.length_map, fl2, lB]
    exact small_le (by omega)
  have sA1 := same_upd (o := .lst (B.map V.str ++ (List.replicate (((k : Nat) : Int)).toNat ((["pay", "2"] : List Str).map V.str)).flatten)) fA1
  refine ⟨by show 2 ≤ sizeLine; decide, fun B1 fB1 => ?_⟩
  have sB1 := same_upd (o := .lst ((["end", "end"] : List Str).map V.str)) fB1
  refine ⟨A1, B1, _, _, rfl, rfl, sB1 _ _ upd_same, upd_same, ?_, fun F1 fF1 => ?_⟩
  · show (_ ++ (List.replicate (((k : Nat) : Int)).toNat ((["pay", "2"] : List Str).map V.str)).flatten).length + 2 ≤ _
    rw [eK, List.length_append, List.length_map, List.length_map, fl2, lB]
    exact small_le (by omega)
  have sF1 := same_upd (o := .lst ((B.map V.str ++ (List.replicate (((k : Nat) : Int)).toNat ((["pay", "2"] : List Str).map V.str)).flatten) ++ (["end", "end"] : List Str).map V.str)) fF1
  have eC9 := sF1 _ _ (sB1 _ _ (sA1 _ _ (sR _ _ (sD1 _ _ eC8))))
  refine ⟨_, rfl, C1, _, rfl, .inl (SqL.of eC9), _, rfl, rfl, by show 3 ≤ sizeLine; decide, fun V1 fV => ?_⟩
  refine q V1 (elsT w t k) (8 + 2 * t) (decide (k = 0)) _ (elsT_bt w (by omega) (by omega)) ⟨F1, ?_, ?_⟩
  · have e4 : decide (V.int ((k : Nat) : Int) = V.int 0) = decide (k = 0) := decide_eq_decide.mpr ⟨fun z => by have := V.int.inj z; omega, fun z => by rw [z]; rfl⟩
    rw [upd_same, e4, List.length_map, lB]
  · refine same_upd fV _ _ ?_
    rw [upd_same]
    show some (HO.lst ((B.map V.str ++ (List.replicate (((k : Nat) : Int)).toNat ((["pay", "2"] : List Str).map V.str)).flatten) ++ (["end", "end"] : List Str).map V.str)) = _
    rw [eK, ← eB]
    unfold elsT
    rw [List.map_append (l₂ := (["end", "end"] : List Str)), List.map_append (l₂ := (List.replicate k (["pay", "2"] : List Str)).flatten)]
/-! ### _law_text -/
def abcS : Str := "abcdefghijklmnopqrstuvwxyz"
theorem abc_let {r : Int} (h0 : 0 ≤ r) (h1 : r < 26) : ∃ c, atI abcS.cps.toList r = some c ∧ LetC c := by
  have hl : abcS.cps.toList.length = 26 := by decide +kernel
  have hlt : r.toNat < abcS.cps.toList.length := by omega
  refine ⟨abcS.cps.toList[r.toNat], at_ofG (j := r.toNat) (by omega) (List.getElem?_eq_getElem hlt), ?_⟩
  have : (List.range 26).all (fun i => decide (97 ≤ abcS.cps.toList.getD i 0 ∧ abcS.cps.toList.getD i 0 ≤ 122)) = true := by decide +kernel
  have := of_decide_eq_true (List.all_eq_true.mp this r.toNat (List.mem_range.mpr (by omega)))
  rw [List.getD_eq_getElem?_getD, List.getElem?_eq_getElem hlt] at this
  exact this
def sp_law_text (T : Txt K mg) : Sp := fun vs H Q _ => GenS K vs H Q

theorem ok_law_text (T : Txt K mg) : FnOk P w K mg base CX0 3 T.a_law_text T.d_law_text ["pool"] (sp_law_text T) := by
  refine T.F_law_text.ok sc_law_text (fun vs H Q E h => ?_) (fun cdv A outer s H vs Q E hr h => ?_)
  · obtain ⟨p, c, b, rfl, _⟩ := h
    rfl
  obtain ⟨p, c, b, rfl, hP, q⟩ := h
  refine ⟨_, (pss_cons (ps_set (i := 1) sc_law_text.nd rfl (by first | exact Or.inl rfl | exact Or.inr rfl) (pe_call (ok_law_draw T) (hr.mono (by decide)) (by rfl) T.m_law_draw T.F_law_draw.kp T.b_law_draw .nil pass0 (pa_cons (pv 0) (pa_cons pe_int pa_nil))))
      (pss_cons (ps_if (pt_cmpR op_eq (pv 1) pe_int (nomark _)) (pss_one (ps_ret (pe_call (ok_law_many T) (hr.mono (by decide)) (by rfl) T.m_law_many T.F_law_many.kp T.b_law_many .nil pass0 (pa_cons (pv 0) (pa_cons pe_str (pa_cons (pe_lst (pa_cons pe_str pa_nil)) (pa_cons pe_int pa_nil))))))) pss_nil)
      (pss_cons (ps_if (pt_cmpR op_eq (pv 1) pe_int (nomark _)) (pss_one (ps_ret (pe_call (ok_law_many T) (hr.mono (by decide)) (by rfl) T.m_law_many T.F_law_many.kp T.b_law_many .nil pass0 (pa_cons (pv 0) (pa_cons pe_str (pa_cons (pe_lst (pa_cons pe_str pa_nil)) (pa_cons pe_int pa_nil))))))) pss_nil)
      (pss_cons (ps_if (pt_cmpR op_eq (pv 1) pe_int (nomark _)) (pss_one (ps_ret (pe_call (ok_law_many T) (hr.mono (by decide)) (by rfl) T.m_law_many T.F_law_many.kp T.b_law_many .nil pass0 (pa_cons (pv 0) (pa_cons pe_str (pa_cons (pe_lst (pa_cons pe_str pa_nil)) (pa_cons pe_int pa_nil))))))) pss_nil)
      (pss_cons (ps_if (pt_cmpR op_eq (pv 1) pe_int (nomark _)) (pss_one (ps_ret (pe_call (ok_law_branchings T) (hr.mono (by decide)) (by rfl) T.m_law_branchings T.F_law_branchings.kp T.b_law_branchings .nil pass0 (pa_cons (pv 0) pa_nil)))) pss_nil)
      (pss_cons (ps_if (pt_cmpR op_eq (pv 1) pe_int (nomark _)) (pss_one (ps_ret (pe_call (ok_law_deep T) (hr.mono (by decide)) (by rfl) T.m_law_deep T.F_law_deep.kp T.b_law_deep .nil pass0 (pa_cons (pv 0) pa_nil)))) pss_nil)
      (pss_cons (ps_if (pt_cmpR op_eq (pv 1) pe_int (nomark _)) (pss_one (ps_ret (pe_call (ok_law_deep_expression T) (hr.mono (by decide)) (by rfl) T.m_law_deep_expression T.F_law_deep_expression.kp T.b_law_deep_expression .nil pass0 (pa_cons (pv 0) pa_nil)))) pss_nil)
      (pss_cons (ps_if (pt_cmpR op_eq (pv 1) pe_int (nomark _)) (pss_one (ps_ret (pe_call (ok_law_number_words T) (hr.mono (by decide)) (by rfl) T.m_law_number_words T.F_law_number_words.kp T.b_law_number_words .nil pass0 (pa_cons (pv 0) pa_nil)))) pss_nil)
      (pss_cons (ps_if (pt_cmpR op_eq (pv 1) pe_int (nomark _)) (pss_one (ps_ret (pe_call (ok_law_else T) (hr.mono (by decide)) (by rfl) T.m_law_else T.F_law_else.kp T.b_law_else .nil pass0 (pa_cons (pv 0) pa_nil)))) pss_nil)
      (pss_cons (ps_set (i := 2) sc_law_text.nd rfl (by first | exact Or.inl rfl | exact Or.inr rfl) (pe_op op_add pe_int (pe_call (ok_law_draw T) (hr.mono (by decide)) (by rfl) T.m_law_draw T.F_law_draw.kp T.b_law_draw .nil pass0 (pa_cons (pv 0) (pa_cons pe_int pa_nil)))))
      (pss_cons (ps_set (i := 3) sc_law_text.nd rfl (by first | exact Or.inl rfl | exact Or.inr rfl) (pe_ix ix_str pe_str (pe_call (ok_law_draw T) (hr.mono (by decide)) (by rfl) T.m_law_draw T.F_law_draw.kp T.b_law_draw .nil pass0 (pa_cons (pv 0) (pa_cons pe_int pa_nil))) (fun _ _ => rfl)))
      (pss_one (ps_ret (pe_tup (pa_cons (pe_lst (pa_cons pe_str (pa_cons (pe_op op_mulS1 (pv 3) (pv 2)) (pa_cons pe_str pa_nil)))) (pa_cons pe_int (pa_cons (pe_cmpR op_gt (pv 2) pe_int (nomark _)) pa_nil))))))))))))))))), ?_⟩
  refine ⟨_, rfl, p, c, 9, b, rfl, by decide, by decide, hP, fun kd H1 k0 k1 b1 P1 => ?_⟩
  refine ⟨_, rfl, rfl, _, rfl, ite2 (fun _ => ?_) (fun _ => ?_)⟩
  · refine ⟨_, rfl, by show 1 ≤ sizeLine; decide, fun X fX => ?_⟩
    refine ⟨p, c, X, b, "option", ["on"], 6, rfl, P1.same (same_upd fX), P1.ne fX, upd_same, by decide, by decide, fun t k H2 hk tv => ?_⟩
    exact q t _ _ _ H2 (many_opt (by omega)) tv
  refine ⟨_, rfl, rfl, _, rfl, ite2 (fun _ => ?_) (fun _ => ?_)⟩
  · refine ⟨_, rfl, by show 1 ≤ sizeLine; decide, fun X fX => ?_⟩
    refine ⟨p, c, X, b, "var", ["7"], 12, rfl, P1.same (same_upd fX), P1.ne fX, upd_same, by decide, by decide, fun t k H2 hk tv => ?_⟩
    exact q t _ _ _ H2 (many_var (by omega)) tv
  refine ⟨_, rfl, rfl, _, rfl, ite2 (fun _ => ?_) (fun _ => ?_)⟩
  · refine ⟨_, rfl, by show 1 ≤ sizeLine; decide, fun X fX => ?_⟩
    refine ⟨p, c, X, b, "round", ["end"], 8, rfl, P1.same (same_upd fX), P1.ne fX, upd_same, by decide, by decide, fun t k H2 hk tv => ?_⟩
    exact q t _ _ _ H2 (many_rnd (by omega)) tv
  refine ⟨_, rfl, rfl, _, rfl, ite2 (fun _ => ⟨_, rfl, p, c, b, rfl, P1, q⟩) (fun _ => ?_)⟩
  refine ⟨_, rfl, rfl, _, rfl, ite2 (fun _ => ⟨_, rfl, p, c, b, rfl, P1, q⟩) (fun _ => ?_)⟩
  refine ⟨_, rfl, rfl, _, rfl, ite2 (fun _ => ⟨_, rfl, p, c, b, rfl, P1, q⟩) (fun _ => ?_)⟩
  refine ⟨_, rfl, rfl, _, rfl, ite2 (fun _ => ⟨_, rfl, p, c, b, rfl, P1, q⟩) (fun _ => ?_)⟩
  refine ⟨_, rfl, rfl, _, rfl, ite2 (fun _ => ⟨_, rfl, p, c, b, rfl, P1, q⟩) (fun _ => ?_)⟩
  refine ⟨_, rfl, p, c, 14, b, rfl, by decide, by decide, P1, fun z H2 z0 z1 b2 P2 => ?_⟩
  refine ⟨_, _, rfl, rfl, ?_⟩
  refine ⟨_, rfl, p, c, 26, b, rfl, by decide, by decide, P2, fun r H3 r0 r1 b3 P3 => ?_⟩
  obtain ⟨d, ad, ld⟩ := abc_let r0 r1
  refine ⟨abcS, r, d, rfl, rfl, by decide +kernel, ad, ?_⟩
  refine ⟨_, rfl, _, rfl, (⟨#[d]⟩ : Str), 1 + z, d, rfl, rfl, rfl, by omega, by omega, fun u hu => ?_⟩
  refine ⟨by show 3 ≤ sizeLine; decide, fun X fX => ?_⟩
  refine ⟨_, rfl, _, _, rfl, rfl, by show 3 ≤ sizeLine; decide, fun V1 fV => ?_⟩
  refine q V1 (nmT u) 1 (decide (12 < (1 + z).toNat)) _ (nmT_bt hu ld (by omega) (by omega)) ⟨X, ?_, same_upd fV _ _ upd_same⟩
  have e4 : decide ((12 : Int) < 1 + z) = decide (12 < (1 + z).toNat) := decide_eq_decide.mpr (by omega)
  rw [upd_same]
  show some (HO.tup [_, _, V.bl (decide ((12 : Int) < 1 + z))]) = _
  rw [e4]
  rfl
/-! ### law -/
theorem sumS : ∀ ws : List Str, (∀ w ∈ ws, WdS w) → (ws.map (·.length)).sum ≤ 40 * ws.length
  | [], _ => by simp
  | w :: r, h => by
    have := sumS r fun x m => h x (List.mem_cons_of_mem _ m)
    have := (h w List.mem_cons_self).2
    rw [List.map_cons, List.sum_cons, List.length_cons]
    omega
def sp_law (T : Txt K mg) : Sp := spLaw K

theorem ok_law (T : Txt K mg) : FnOk P w K mg base CX0 62 T.a_law T.d_law ["script"] (sp_law T) := by
  refine T.F_law.ok sc_law (fun vs H Q E h => ?_) (fun cdv A outer s H vs Q E hr h => ?_)
  · obtain ⟨a, ns, rfl, _⟩ := h
    rfl
  obtain ⟨s0, ns0, rfl, hS, h63, q⟩ := h
  refine ⟨_, (pss_cons (ps_asg (pe_call (ok_law_text T) (hr.mono (by decide)) (by rfl) T.m_law_text T.F_law_text.kp T.b_law_text .nil pass0 (pa_cons (pe_call (ok_law_pool T) (hr.mono (by decide)) (by rfl) T.m_law_pool T.F_law_pool.kp T.b_law_pool .nil pass0 (pa_cons (pv 0) (pa_cons pe_int pa_nil))) pa_nil)) (pg_tup rfl (pgs_cons (pg_name (i := 1) sc_law.nd rfl (by first | exact Or.inl rfl | exact Or.inr rfl)) (pgs_cons (pg_name (i := 2) sc_law.nd rfl (by first | exact Or.inl rfl | exact Or.inr rfl)) (pgs_cons (pg_name (i := 3) sc_law.nd rfl (by first | exact Or.inl rfl | exact Or.inr rfl)) pgs_nil)))))
      (pss_cons (ps_set (i := 4) sc_law.nd rfl (by first | exact Or.inl rfl | exact Or.inr rfl) (pe_bm PySem.F.plainAttrs_str PySem.F.slot_str_join PySem.F.type_str_join mt_join pe_str (pa_cons (pv 1) pa_nil)))
      (pss_cons (ps_set (i := 5) sc_law.nd rfl (by first | exact Or.inl rfl | exact Or.inr rfl) (pe_tup (pa_cons pe_str (pa_cons (pv 4) pa_nil))))
      (C8.pss_cut (ps_if (pt_truth (pv 3) (fun _ => rfl)) (pss_one (ps_set (i := 5) sc_law.nd rfl (by first | exact Or.inl rfl | exact Or.inr rfl) (pe_tup (pa_cons pe_str (pa_cons (pv 2) (pa_cons pe_bl pa_nil)))))) pss_nil)
      (pss_one (ps_ret (pe_call (ok_law_same T 40) (hr.mono (by decide)) (by rfl) T.m_law_same T.F_law_same.kp T.b_law_same .nil pass0 (pa_cons (pe_call (ok_law_read T) (hr.mono (by decide)) (by rfl) T.m_law_read T.F_law_read.kp T.b_law_read .nil pass0 (pa_cons (pv 4) pa_nil)) (pa_cons (pv 5) pa_nil))))))))), ?_⟩
  refine ⟨_, rfl, s0, ns0, 0, rfl, hS, fun p c H1 s1 np nc P1 => ?_⟩
  refine ⟨p, c, 0, rfl, P1, fun t ws n w H2 bt tv => ?_⟩
  obtain ⟨W, et, eW⟩ := tv
  refine ⟨t, _, rfl, SqT.of et, rfl, _, _, rfl, _, _, rfl, _, _, rfl, rfl, ?_⟩
  have sm := sumS ws bt.wd
  have tl := tx_len ws
  have l2 := bt.len
  refine ⟨rfl, _, rfl, (⟨#[32]⟩ : Str), W, ws, rfl, rfl, .inl (SqL.of eW), ?_, ?_⟩
  · show _ + _ * 1 ≤ _
    omega
  refine ⟨_, rfl, by show 2 ≤ sizeLine; decide, fun U fU => ?_⟩
  have sU := same_upd (o := .tup [V.str "read", .str (tx ws)]) fU
  refine ⟨fun σ' H' => ∃ D : Addr, σ' = [some (.ref s0), some (.ref W), some (.int ((n : Nat) : Int)), some (.bl w), some (.str (tx ws)), some (.ref D)] ∧ H' D = some (.tup (if w = true then [.str "refused", .int ((n : Nat) : Int), .bl true] else [.str "read", .str (tx ws)])), ?_, ?_⟩
  · refine ⟨_, rfl, _, rfl, ite2 (fun c1 => ?_) (fun c1 => ?_)⟩
    · refine ⟨_, rfl, by show 3 ≤ sizeLine; decide, fun D fD => ⟨D, rfl, ?_⟩⟩
      rw [upd_same, if_pos c1]
    · refine ⟨U, rfl, ?_⟩
      rw [upd_same, if_neg c1]
      rfl
  rintro σ3 H3 ⟨D, rfl, eD⟩
  have pos : ws = [] ∨ 0 < (tx ws).length := bt.two.imp id fun z => tx_pos (.inl z)
  refine ⟨_, rfl, ws, rfl, tx_parts' (fun w m z => ((bt.wd w m).1 32 z).2 rfl) pos, fun w m => ⟨fun c mc => ((bt.wd w m).1 c mc).1, Nat.le_trans (bt.wd w m).2 (by decide)⟩, by omega, by omega, ?_⟩
  cases w with
  | false =>
    obtain ⟨os, us, rs, hok, e⟩ := bt.yes rfl
    rw [if_neg (fun z => Bool.noConfusion z)] at eD
    refine .inl ⟨os, us, rs, hok, e, by rw [← e]; omega, fun t2 H4 s4 n4 e4 => ?_⟩
    exact ⟨_, rfl, .ref t2, .ref D, .tuple [.str "read", .str (tx ws)], rfl, .mk (.inl e4) (.cons (.str _) (.cons (.str _) .nil)), .mk (.inl (s4 _ _ eD)) (.cons (.str _) (.cons (.str _) .nil)), by simp [PyData.depth, PyData.depthAll], by simp [wide, wideAll], q _⟩
  | true =>
    rw [if_pos rfl] at eD
    refine .inr ⟨n, bt.no rfl, fun t2 H4 s4 n4 e4 => ?_⟩
    exact ⟨_, rfl, .ref t2, .ref D, .tuple [.str "refused", .int ((n : Nat) : Int), .bool true], rfl, .mk (.inl e4) (.cons (.str _) (.cons (.int _) (.cons (.bl _) .nil))), .mk (.inl (s4 _ _ eD)) (.cons (.str _) (.cons (.int _) (.cons (.bl _) .nil))), by simp [PyData.depth, PyData.depthAll], by simp [wide, wideAll], q _⟩
end
/-! ### what the top has written -/
theorem all_mk {l : PySem.W.OpenLaw} [PrOk l.prog] {w : World} {K : PySem.W.Frag} {h : Heap} {mg : Str → Option Value} {fa : Addr} (X : K.In h) (G : h.Ns mainGlobals mg) (hfa : mg "law" = some (.ref fa))
    {C_Cursor : Addr}
    {C_BlockReader : Addr}
    {C_Game : Addr}
    {C_GameError : Addr}
    {C_BadText fe_BadText ce_BadText de_BadText ne_BadText : Addr} {nm_BadText qn_BadText : Str} {bs_BadText sb_BadText : List Value} {sn_BadText : List Str} {ab_BadText : Bool} {cl_BadText : Option Bool} {dd_BadText oe_BadText ae_BadText ge_BadText he_BadText : Option Addr} {k0_BadText k1_BadText k2_BadText k3_BadText k5_BadText : Option Value} {oce_BadText kve_BadText dce_BadText pme_BadText cte_BadText cle_BadText cme_BadText : Value} {sle_BadText sme_BadText sne_BadText : Array (Option Value)} {vse_BadText : Array Value} {tfe_BadText : Tok}
    {tk_LETTERS_AND_DIGITS : Tok}
    {tk_LETTERS : Tok}
    {A_KEY_WORDS : Addr} {tr_KEY_WORDS : Nat} {tu_KEY_WORDS : Array (Option Value)} {tk_KEY_WORDS_0 tk_KEY_WORDS_1 tk_KEY_WORDS_2 tk_KEY_WORDS_3 tk_KEY_WORDS_4 tk_KEY_WORDS_5 tk_KEY_WORDS_6 tk_KEY_WORDS_7 tk_KEY_WORDS_8 tk_KEY_WORDS_9 tk_KEY_WORDS_10 tk_KEY_WORDS_11 tk_KEY_WORDS_12 tk_KEY_WORDS_13 tk_KEY_WORDS_14 tk_KEY_WORDS_15 tk_KEY_WORDS_16 tk_KEY_WORDS_17 tk_KEY_WORDS_18 tk_KEY_WORDS_19 tk_KEY_WORDS_20 tk_KEY_WORDS_21 tk_KEY_WORDS_22 tk_KEY_WORDS_23 tk_KEY_WORDS_24 tk_KEY_WORDS_25 : Tok}
    {tk_LONGEST_NAME : Tok}
    {tk_GREATEST_NUMBER : Tok}
    {tk_LONGEST_NUMBER : Tok}
    {A_OPERATORS : Addr} {tr_OPERATORS : Nat} {tu_OPERATORS : Array (Option Value)} {tk_OPERATORS_0 tk_OPERATORS_1 tk_OPERATORS_2 tk_OPERATORS_3 tk_OPERATORS_4 tk_OPERATORS_5 tk_OPERATORS_6 : Tok}
    {tk_MOST_CHOICES : Tok}
    {tk_DEEPEST_BLOCK : Tok}
    {tk_MOST_MOVES : Tok}
    {A_SEATS : Addr} {tr_SEATS : Nat} {tu_SEATS : Array (Option Value)} {tk_SEATS_0 tk_SEATS_1 tk_SEATS_2 : Tok}
    {tk_MOST_RESULTS : Tok}
    {tk_MOST_OPTIONS : Tok}
    {tk_MOST_VARIABLES : Tok}
    {tk_MOST_ROUNDS : Tok}
    {f1 : Addr} {od1 an1 : Option Addr} {sl1 : Array (Option Value)} {oc1 dc1 pm1 cd1 ct1 : Value} {Dk1 : Addr}
    {zo1_1 : Addr} {zod1_1 : Option Addr} {zon1_1 : Nat} {zol1_1 : Array (Option Value)}
    {zo1_0 : Addr} {zod1_0 : Option Addr} {zon1_0 : Nat} {zol1_0 : Array (Option Value)}
    {f2 : Addr} {od2 an2 : Option Addr} {sl2 : Array (Option Value)} {oc2 kV2 dc2 pm2 cd2 ct2 : Value}
    {f3 : Addr} {od3 an3 : Option Addr} {sl3 : Array (Option Value)} {oc3 kV3 dc3 pm3 cd3 ct3 : Value}
    {f4 : Addr} {od4 an4 : Option Addr} {sl4 : Array (Option Value)} {oc4 kV4 dc4 pm4 cd4 ct4 : Value}
    {f5 : Addr} {od5 an5 : Option Addr} {sl5 : Array (Option Value)} {oc5 kV5 dc5 pm5 cd5 ct5 : Value}
    {f6 : Addr} {od6 an6 : Option Addr} {sl6 : Array (Option Value)} {oc6 kV6 dc6 pm6 cd6 ct6 : Value}
    {f7 : Addr} {od7 an7 : Option Addr} {sl7 : Array (Option Value)} {oc7 kV7 dc7 pm7 cd7 ct7 : Value}
    {f8 : Addr} {od8 an8 : Option Addr} {sl8 : Array (Option Value)} {oc8 kV8 dc8 pm8 cd8 ct8 : Value}
    {pp8 : Addr} {pr8 : List Value}
    {f9 : Addr} {od9 an9 : Option Addr} {sl9 : Array (Option Value)} {oc9 kV9 dc9 pm9 cd9 ct9 : Value}
    {f10 : Addr} {od10 an10 : Option Addr} {sl10 : Array (Option Value)} {oc10 kV10 dc10 pm10 cd10 ct10 : Value}
    {f11 : Addr} {od11 an11 : Option Addr} {sl11 : Array (Option Value)} {oc11 kV11 dc11 pm11 cd11 ct11 : Value}
    {f12 : Addr} {od12 an12 : Option Addr} {sl12 : Array (Option Value)} {oc12 kV12 dc12 pm12 cd12 ct12 : Value}
    {f13 : Addr} {od13 an13 : Option Addr} {sl13 : Array (Option Value)} {oc13 kV13 dc13 pm13 cd13 ct13 : Value}
    {f14 : Addr} {od14 an14 : Option Addr} {sl14 : Array (Option Value)} {oc14 kV14 dc14 pm14 cd14 ct14 : Value}
    {f15 : Addr} {od15 an15 : Option Addr} {sl15 : Array (Option Value)} {oc15 kV15 dc15 pm15 cd15 ct15 : Value}
    {f16 : Addr} {od16 an16 : Option Addr} {sl16 : Array (Option Value)} {oc16 dc16 pm16 cd16 ct16 : Value} {Dk16 : Addr}
    {tko16_0 : Tok}
    {f17 : Addr} {od17 an17 : Option Addr} {sl17 : Array (Option Value)} {oc17 kV17 dc17 pm17 cd17 ct17 : Value}
    {f18 : Addr} {od18 an18 : Option Addr} {sl18 : Array (Option Value)} {oc18 kV18 dc18 pm18 cd18 ct18 : Value}
    {f19 : Addr} {od19 an19 : Option Addr} {sl19 : Array (Option Value)} {oc19 kV19 dc19 pm19 cd19 ct19 : Value}
    {f20 : Addr} {od20 an20 : Option Addr} {sl20 : Array (Option Value)} {oc20 kV20 dc20 pm20 cd20 ct20 : Value}
    {f21 : Addr} {od21 an21 : Option Addr} {sl21 : Array (Option Value)} {oc21 kV21 dc21 pm21 cd21 ct21 : Value}
    {f22 : Addr} {od22 an22 : Option Addr} {sl22 : Array (Option Value)} {oc22 kV22 dc22 pm22 cd22 ct22 : Value}
    {f23 : Addr} {od23 an23 : Option Addr} {sl23 : Array (Option Value)} {oc23 kV23 dc23 pm23 cd23 ct23 : Value}
    {f24 : Addr} {od24 an24 : Option Addr} {sl24 : Array (Option Value)} {oc24 kV24 dc24 pm24 cd24 ct24 : Value}
    {f25 : Addr} {od25 an25 : Option Addr} {sl25 : Array (Option Value)} {oc25 kV25 dc25 pm25 cd25 ct25 : Value}
    {f26 : Addr} {od26 an26 : Option Addr} {sl26 : Array (Option Value)} {oc26 kV26 dc26 pm26 cd26 ct26 : Value}
    {f27 : Addr} {od27 an27 : Option Addr} {sl27 : Array (Option Value)} {oc27 kV27 dc27 pm27 cd27 ct27 : Value}
    {f28 : Addr} {od28 an28 : Option Addr} {sl28 : Array (Option Value)} {oc28 kV28 dc28 pm28 cd28 ct28 : Value}
    {f29 : Addr} {od29 an29 : Option Addr} {sl29 : Array (Option Value)} {oc29 kV29 dc29 pm29 cd29 ct29 : Value}
    {f30 : Addr} {od30 an30 : Option Addr} {sl30 : Array (Option Value)} {oc30 kV30 dc30 pm30 cd30 ct30 : Value}
    {f31 : Addr} {od31 an31 : Option Addr} {sl31 : Array (Option Value)} {oc31 kV31 dc31 pm31 cd31 ct31 : Value}
    {f32 : Addr} {od32 an32 : Option Addr} {sl32 : Array (Option Value)} {oc32 kV32 dc32 pm32 cd32 ct32 : Value}
    {f33 : Addr} {od33 an33 : Option Addr} {sl33 : Array (Option Value)} {oc33 kV33 dc33 pm33 cd33 ct33 : Value}
    {f34 : Addr} {od34 an34 : Option Addr} {sl34 : Array (Option Value)} {oc34 kV34 dc34 pm34 cd34 ct34 : Value}
    {f35 : Addr} {od35 an35 : Option Addr} {sl35 : Array (Option Value)} {oc35 kV35 dc35 pm35 cd35 ct35 : Value}
    {f36 : Addr} {od36 an36 : Option Addr} {sl36 : Array (Option Value)} {oc36 kV36 dc36 pm36 cd36 ct36 : Value}
    {f37 : Addr} {od37 an37 : Option Addr} {sl37 : Array (Option Value)} {oc37 kV37 dc37 pm37 cd37 ct37 : Value}
    {f38 : Addr} {od38 an38 : Option Addr} {sl38 : Array (Option Value)} {oc38 kV38 dc38 pm38 cd38 ct38 : Value}
    {f39 : Addr} {od39 an39 : Option Addr} {sl39 : Array (Option Value)} {oc39 kV39 dc39 pm39 cd39 ct39 : Value}
    {f40 : Addr} {od40 an40 : Option Addr} {sl40 : Array (Option Value)} {oc40 kV40 dc40 pm40 cd40 ct40 : Value}
    {f41 : Addr} {od41 an41 : Option Addr} {sl41 : Array (Option Value)} {oc41 kV41 dc41 pm41 cd41 ct41 : Value}
    {f42 : Addr} {od42 an42 : Option Addr} {sl42 : Array (Option Value)} {oc42 kV42 dc42 pm42 cd42 ct42 : Value}
    {f43 : Addr} {od43 an43 : Option Addr} {sl43 : Array (Option Value)} {oc43 kV43 dc43 pm43 cd43 ct43 : Value}
    {f44 : Addr} {od44 an44 : Option Addr} {sl44 : Array (Option Value)} {oc44 kV44 dc44 pm44 cd44 ct44 : Value}
    {f45 : Addr} {od45 an45 : Option Addr} {sl45 : Array (Option Value)} {oc45 kV45 dc45 pm45 cd45 ct45 : Value}
    (ac_Cursor : PySem.W.nsIn K mainGlobals "Cursor" = some (some (.ref C_Cursor)))
    (pg_Cursor : PySem.W.plainGet K C_Cursor Str.empty = true)
    (hd_Cursor : PySem.W.hasDictIn K C_Cursor = true)
    (po_Cursor : PySem.W.plainOver K C_Cursor = true)
    (sa_Cursor : PySem.W.findIn K (.ref C_Cursor) "__setattr__" = some (some (.builtin "object.__setattr__")))
    (mkc_Cursor : PySem.W.makesIn K C_Cursor = true)
    (kpc_Cursor : PySem.W.keepIn K (.ref C_Cursor) = true)
    (na_Cursor__words : PySem.W.findIn K (.ref C_Cursor) "_words" = some none)
    (na_Cursor_options : PySem.W.findIn K (.ref C_Cursor) "options" = some none)
    (na_Cursor_variables : PySem.W.findIn K (.ref C_Cursor) "variables" = some none)
    (na_Cursor_sees : PySem.W.findIn K (.ref C_Cursor) "sees" = some none)
    (na_Cursor_at : PySem.W.findIn K (.ref C_Cursor) "at" = some none)
    (ac_BlockReader : PySem.W.nsIn K mainGlobals "BlockReader" = some (some (.ref C_BlockReader)))
    (pg_BlockReader : PySem.W.plainGet K C_BlockReader Str.empty = true)
    (hd_BlockReader : PySem.W.hasDictIn K C_BlockReader = true)
    (po_BlockReader : PySem.W.plainOver K C_BlockReader = true)
    (sa_BlockReader : PySem.W.findIn K (.ref C_BlockReader) "__setattr__" = some (some (.builtin "object.__setattr__")))
    (mkc_BlockReader : PySem.W.makesIn K C_BlockReader = true)
    (kpc_BlockReader : PySem.W.keepIn K (.ref C_BlockReader) = true)
    (na_BlockReader__cursor : PySem.W.findIn K (.ref C_BlockReader) "_cursor" = some none)
    (na_BlockReader__draws : PySem.W.findIn K (.ref C_BlockReader) "_draws" = some none)
    (na_BlockReader__moves : PySem.W.findIn K (.ref C_BlockReader) "_moves" = some none)
    (ac_Game : PySem.W.nsIn K mainGlobals "Game" = some (some (.ref C_Game)))
    (pg_Game : PySem.W.plainGet K C_Game Str.empty = true)
    (hd_Game : PySem.W.hasDictIn K C_Game = true)
    (po_Game : PySem.W.plainOver K C_Game = true)
    (sa_Game : PySem.W.findIn K (.ref C_Game) "__setattr__" = some (some (.builtin "object.__setattr__")))
    (mkc_Game : PySem.W.makesIn K C_Game = true)
    (kpc_Game : PySem.W.keepIn K (.ref C_Game) = true)
    (na_Game_options : PySem.W.findIn K (.ref C_Game) "options" = some none)
    (na_Game_variables : PySem.W.findIn K (.ref C_Game) "variables" = some none)
    (na_Game_rounds : PySem.W.findIn K (.ref C_Game) "rounds" = some none)
    (xa_Game : PySem.W.findIn K (.ref C_Game) "__class__" = some (some (.builtin "object.__class__")))
    (xn_Game : PySem.W.specialIn K (.builtin "object.__class__") "__get__" = some (some (.builtin "getset_descriptor.__get__")))
    (xt_Game : PySem.W.takesIn K (.builtin "object.__class__") = some true)
    (xm_Game : PySem.W.mroIn K C_Game (.type "object") = some true)
    (ac_GameError : PySem.W.nsIn K mainGlobals "GameError" = some (some (.ref C_GameError)))
    (re_GameError : PySem.W.subIn K (.ref C_GameError) (.type "BaseException") = some true)
    (ri_GameError : PySem.W.isClsIn K C_GameError = true)
    (ac_BadText : PySem.W.nsIn K mainGlobals "BadText" = some (some (.ref C_BadText)))
    (xl_BadText : K.lookup C_BadText = some (excClassObj nm_BadText qn_BadText C_BadText ne_BadText bs_BadText [.ref C_GameError, .type "ValueError", .type "Exception", .type "BaseException", .type "object"] true sn_BadText sb_BadText ab_BadText cl_BadText dd_BadText k0_BadText k1_BadText k2_BadText k3_BadText k5_BadText "ValueError.__new__"))
    (esa_BadText : PySem.W.findIn K (.ref C_BadText) "__setattr__" = some (some (.builtin "object.__setattr__")))
    (exc_BadText : PySem.W.subIn K (.ref C_BadText) (.type "BaseException") = some true)
    (ety_BadText : PySem.W.typeIn K (.ref C_BadText) = some (.type "type"))
    (ekp_BadText : PySem.W.keepIn K (.ref C_BadText) = true)
    (ega_BadText : PySem.W.findIn K (.ref C_BadText) "__getattribute__" = some (some (.builtin "BaseException.__getattribute__")))
    (egg_BadText : PySem.W.findIn K (.ref C_BadText) "__getattr__" = some none)
    (ehd_BadText : PySem.W.hasDictIn K C_BadText = true)
    (eno_BadText : PySem.W.findIn K (.ref C_BadText) "at" = some none)
    (ein_BadText : PySem.W.findIn K (.ref C_BadText) "__init__" = some (some (.ref fe_BadText)))
    (eit_BadText : PySem.W.typeIn K (.ref fe_BadText) = some (.type "function"))
    (eic_BadText : PySem.W.isClsIn K C_BadText = true)
    (ess_BadText : PySem.W.subIn K (.ref C_BadText) (.ref C_BadText) = some true)
    (elk_BadText : K.lookup fe_BadText = some ⟨oce_BadText, oe_BadText, .func (PySem.W.ksFn "__init__" "BadText.__init__" (defArgs s_BadText_init) (defBody s_BadText_init) (defScope s_BadText_init) .none kve_BadText dce_BadText pme_BadText ae_BadText (.ref ce_BadText) cte_BadText de_BadText), sle_BadText⟩)
    (ecd_BadText : PySem.W.codeIn K (.ref ce_BadText) "BadText.__init__" = true)
    (eco_BadText : K.lookup ce_BadText = some ⟨cle_BadText, ge_BadText, .fields vse_BadText, sme_BadText⟩)
    (evs_BadText : vse_BadText[2]? = some (.str "/claim/cut.py" tfe_BadText))
    (ecc_BadText : K.lookup de_BadText = some ⟨cme_BadText, he_BadText, .cell (some (.ref C_BadText)), sne_BadText⟩)
    (esu_BadText : PySem.W.ks_superIn K C_BadText C_BadText "__init__" = some (some (.builtin "ValueError.__init__")))
    (evb_BadText : PySem.W.subIn K (.ref C_BadText) (.type "ValueError") = some true)
    (emr_BadText : PySem.W.mroIn K C_BadText (.ref C_BadText) = some true)
    (eha_BadText : PySem.W.findIn K (.ref C_BadText) "__class__" = some (some (.builtin "object.__class__")))
    (ehm_BadText : PySem.W.mroIn K C_BadText (.type "object") = some true)
    (esr_GameError_BadText : PySem.W.subIn K (.ref C_BadText) (.ref C_GameError) = some true)
    (ert_GameError_BadText : PySem.W.typeIn K (.ref C_GameError) = some (.type "type"))
    (ehn : PySem.W.specialIn K (.builtin "object.__class__") "__get__" = some (some (.builtin "getset_descriptor.__get__")))
    (eht : PySem.W.takesIn K (.builtin "object.__class__") = some true)
    (opq : PySem.W.nsIn K cStatics "thirdparty.any" = some none)
    (z_super : PySem.W.nsIn K mainGlobals "super" = some none)
    (ac_LETTERS_AND_DIGITS : PySem.W.nsIn K mainGlobals "LETTERS_AND_DIGITS" = some (some (.str "abcdefghijklmnopqrstuvwxyz0123456789" tk_LETTERS_AND_DIGITS)))
    (ac_LETTERS : PySem.W.nsIn K mainGlobals "LETTERS" = some (some (.str "abcdefghijklmnopqrstuvwxyz" tk_LETTERS)))
    (ac_KEY_WORDS : PySem.W.nsIn K mainGlobals "KEY_WORDS" = some (some (.ref A_KEY_WORDS)))
    (lk_KEY_WORDS : K.lookup A_KEY_WORDS = some ⟨.type "tuple", none, .seq #[.str "option" tk_KEY_WORDS_0, .str "on" tk_KEY_WORDS_1, .str "off" tk_KEY_WORDS_2, .str "var" tk_KEY_WORDS_3, .str "round" tk_KEY_WORDS_4, .str "end" tk_KEY_WORDS_5, .str "set" tk_KEY_WORDS_6, .str "if" tk_KEY_WORDS_7, .str "else" tk_KEY_WORDS_8, .str "when" tk_KEY_WORDS_9, .str "draw" tk_KEY_WORDS_10, .str "first" tk_KEY_WORDS_11, .str "second" tk_KEY_WORDS_12, .str "show" tk_KEY_WORDS_13, .str "both" tk_KEY_WORDS_14, .str "pay" tk_KEY_WORDS_15, .str "take" tk_KEY_WORDS_16, .str "pick" tk_KEY_WORDS_17, .str "mod" tk_KEY_WORDS_18, .str "player" tk_KEY_WORDS_19, .str "keep" tk_KEY_WORDS_20, .str "lot" tk_KEY_WORDS_21, .str "while" tk_KEY_WORDS_22, .str "answer" tk_KEY_WORDS_23, .str "view" tk_KEY_WORDS_24, .str "long" tk_KEY_WORDS_25] tr_KEY_WORDS, tu_KEY_WORDS⟩)
    (ac_LONGEST_NAME : PySem.W.nsIn K mainGlobals "LONGEST_NAME" = some (some (.int 12 tk_LONGEST_NAME)))
    (ac_GREATEST_NUMBER : PySem.W.nsIn K mainGlobals "GREATEST_NUMBER" = some (some (.int 65535 tk_GREATEST_NUMBER)))
    (ac_LONGEST_NUMBER : PySem.W.nsIn K mainGlobals "LONGEST_NUMBER" = some (some (.int 5 tk_LONGEST_NUMBER)))
    (ac_OPERATORS : PySem.W.nsIn K mainGlobals "OPERATORS" = some (some (.ref A_OPERATORS)))
    (lk_OPERATORS : K.lookup A_OPERATORS = some ⟨.type "tuple", none, .seq #[.str "+" tk_OPERATORS_0, .str "-" tk_OPERATORS_1, .str "*" tk_OPERATORS_2, .str "/" tk_OPERATORS_3, .str "mod" tk_OPERATORS_4, .str "<" tk_OPERATORS_5, .str "=" tk_OPERATORS_6] tr_OPERATORS, tu_OPERATORS⟩)
    (ac_MOST_CHOICES : PySem.W.nsIn K mainGlobals "MOST_CHOICES" = some (some (.int 24 tk_MOST_CHOICES)))
    (ac_DEEPEST_BLOCK : PySem.W.nsIn K mainGlobals "DEEPEST_BLOCK" = some (some (.int 8 tk_DEEPEST_BLOCK)))
    (ac_MOST_MOVES : PySem.W.nsIn K mainGlobals "MOST_MOVES" = some (some (.int 8 tk_MOST_MOVES)))
    (ac_SEATS : PySem.W.nsIn K mainGlobals "SEATS" = some (some (.ref A_SEATS)))
    (lk_SEATS : K.lookup A_SEATS = some ⟨.type "tuple", none, .seq #[.str "both" tk_SEATS_0, .str "first" tk_SEATS_1, .str "second" tk_SEATS_2] tr_SEATS, tu_SEATS⟩)
    (ac_MOST_RESULTS : PySem.W.nsIn K mainGlobals "MOST_RESULTS" = some (some (.int 64 tk_MOST_RESULTS)))
    (ac_MOST_OPTIONS : PySem.W.nsIn K mainGlobals "MOST_OPTIONS" = some (some (.int 6 tk_MOST_OPTIONS)))
    (ac_MOST_VARIABLES : PySem.W.nsIn K mainGlobals "MOST_VARIABLES" = some (some (.int 12 tk_MOST_VARIABLES)))
    (ac_MOST_ROUNDS : PySem.W.nsIn K mainGlobals "MOST_ROUNDS" = some (some (.int 8 tk_MOST_ROUNDS)))
    (a1 : PySem.W.findIn K (.ref C_Cursor) "__init__" = some (some (.ref f1)))
    (i1 : PySem.W.isFn K (.ref f1) = true)
    (l1 : K.lookup f1 = some ⟨oc1, od1, .func (PySem.W.fnOf "__init__" "Cursor.__init__" (defArgs s_Cursor_init) (defBody s_Cursor_init) (defScope s_Cursor_init) .none (.ref Dk1) dc1 pm1 an1 cd1 ct1), sl1⟩)
    (c1 : PySem.W.codeIn K cd1 "Cursor.__init__" = true)
    (k1 : PySem.W.keepIn K (.ref f1) = true)
    (nk1_2 : PySem.W.nsIn K Dk1 "sees" = some (some (.bool false)))
    (nk1_1 : PySem.W.nsIn K Dk1 "variables" = some (some (.ref zo1_1)))
    (zk1_1 : K.lookup zo1_1 = some ⟨.type "tuple", zod1_1, .seq #[] zon1_1, zol1_1⟩)
    (nk1_0 : PySem.W.nsIn K Dk1 "options" = some (some (.ref zo1_0)))
    (zk1_0 : K.lookup zo1_0 = some ⟨.type "tuple", zod1_0, .seq #[] zon1_0, zol1_0⟩)
    (a2 : PySem.W.findIn K (.ref C_BlockReader) "__init__" = some (some (.ref f2)))
    (i2 : PySem.W.isFn K (.ref f2) = true)
    (l2 : K.lookup f2 = some ⟨oc2, od2, .func (PySem.W.fnOf "__init__" "BlockReader.__init__" (defArgs s_BlockReader_init) (defBody s_BlockReader_init) (defScope s_BlockReader_init) .none kV2 dc2 pm2 an2 cd2 ct2), sl2⟩)
    (c2 : PySem.W.codeIn K cd2 "BlockReader.__init__" = true)
    (k2 : PySem.W.keepIn K (.ref f2) = true)
    (a3 : PySem.W.findIn K (.ref C_Game) "__init__" = some (some (.ref f3)))
    (i3 : PySem.W.isFn K (.ref f3) = true)
    (l3 : K.lookup f3 = some ⟨oc3, od3, .func (PySem.W.fnOf "__init__" "Game.__init__" (defArgs s_Game_init) (defBody s_Game_init) (defScope s_Game_init) .none kV3 dc3 pm3 an3 cd3 ct3), sl3⟩)
    (c3 : PySem.W.codeIn K cd3 "Game.__init__" = true)
    (k3 : PySem.W.keepIn K (.ref f3) = true)
    (a4 : PySem.W.nsIn K mainGlobals "split_words" = some (some (.ref f4)))
    (l4 : K.lookup f4 = some ⟨oc4, od4, .func (PySem.W.fnOf "split_words" "split_words" (defArgs s_split_words) (defBody s_split_words) (defScope s_split_words) .none kV4 dc4 pm4 an4 cd4 ct4), sl4⟩)
    (c4 : PySem.W.codeIn K cd4 "split_words" = true)
    (k4 : PySem.W.keepIn K (.ref f4) = true)
    (a5 : PySem.W.nsIn K mainGlobals "join_words" = some (some (.ref f5)))
    (l5 : K.lookup f5 = some ⟨oc5, od5, .func (PySem.W.fnOf "join_words" "join_words" (defArgs s_join_words) (defBody s_join_words) (defScope s_join_words) .none kV5 dc5 pm5 an5 cd5 ct5), sl5⟩)
    (c5 : PySem.W.codeIn K cd5 "join_words" = true)
    (k5 : PySem.W.keepIn K (.ref f5) = true)
    (a6 : PySem.W.nsIn K mainGlobals "is_name" = some (some (.ref f6)))
    (l6 : K.lookup f6 = some ⟨oc6, od6, .func (PySem.W.fnOf "is_name" "is_name" (defArgs s_is_name) (defBody s_is_name) (defScope s_is_name) .none kV6 dc6 pm6 an6 cd6 ct6), sl6⟩)
    (c6 : PySem.W.codeIn K cd6 "is_name" = true)
    (k6 : PySem.W.keepIn K (.ref f6) = true)
    (a7 : PySem.W.nsIn K mainGlobals "number_of" = some (some (.ref f7)))
    (l7 : K.lookup f7 = some ⟨oc7, od7, .func (PySem.W.fnOf "number_of" "number_of" (defArgs s_number_of) (defBody s_number_of) (defScope s_number_of) .none kV7 dc7 pm7 an7 cd7 ct7), sl7⟩)
    (c7 : PySem.W.codeIn K cd7 "number_of" = true)
    (k7 : PySem.W.keepIn K (.ref f7) = true)
    (a8 : PySem.W.findIn K (.ref C_Cursor) "word" = some (some (.ref pp8)))
    (pg8 : PySem.W.specialIn K (.ref pp8) "__get__" = some (some (.builtin "property.__get__")))
    (pt8 : PySem.W.takesIn K (.ref pp8) = some true)
    (pr8_ : PySem.W.recIn K pp8 "property" = some (.ref f8 :: pr8))
    (l8 : K.lookup f8 = some ⟨oc8, od8, .func (PySem.W.fnOf "word" "Cursor.word" (defArgs s_Cursor_word) (defBody s_Cursor_word) (defScope s_Cursor_word) .none kV8 dc8 pm8 an8 cd8 ct8), sl8⟩)
    (c8 : PySem.W.codeIn K cd8 "Cursor.word" = true)
    (k8 : PySem.W.keepIn K (.ref f8) = true)
    (a9 : PySem.W.findIn K (.ref C_Cursor) "_pass_if" = some (some (.ref f9)))
    (i9 : PySem.W.isFn K (.ref f9) = true)
    (l9 : K.lookup f9 = some ⟨oc9, od9, .func (PySem.W.fnOf "_pass_if" "Cursor._pass_if" (defArgs s_Cursor_pass_if) (defBody s_Cursor_pass_if) (defScope s_Cursor_pass_if) .none kV9 dc9 pm9 an9 cd9 ct9), sl9⟩)
    (c9 : PySem.W.codeIn K cd9 "Cursor._pass_if" = true)
    (k9 : PySem.W.keepIn K (.ref f9) = true)
    (a10 : PySem.W.findIn K (.ref C_Cursor) "take_word" = some (some (.ref f10)))
    (i10 : PySem.W.isFn K (.ref f10) = true)
    (l10 : K.lookup f10 = some ⟨oc10, od10, .func (PySem.W.fnOf "take_word" "Cursor.take_word" (defArgs s_Cursor_take_word) (defBody s_Cursor_take_word) (defScope s_Cursor_take_word) .none kV10 dc10 pm10 an10 cd10 ct10), sl10⟩)
    (c10 : PySem.W.codeIn K cd10 "Cursor.take_word" = true)
    (k10 : PySem.W.keepIn K (.ref f10) = true)
    (a11 : PySem.W.findIn K (.ref C_Cursor) "take_number" = some (some (.ref f11)))
    (i11 : PySem.W.isFn K (.ref f11) = true)
    (l11 : K.lookup f11 = some ⟨oc11, od11, .func (PySem.W.fnOf "take_number" "Cursor.take_number" (defArgs s_Cursor_take_number) (defBody s_Cursor_take_number) (defScope s_Cursor_take_number) .none kV11 dc11 pm11 an11 cd11 ct11), sl11⟩)
    (c11 : PySem.W.codeIn K cd11 "Cursor.take_number" = true)
    (k11 : PySem.W.keepIn K (.ref f11) = true)
    (a12 : PySem.W.findIn K (.ref C_Cursor) "take_name" = some (some (.ref f12)))
    (i12 : PySem.W.isFn K (.ref f12) = true)
    (l12 : K.lookup f12 = some ⟨oc12, od12, .func (PySem.W.fnOf "take_name" "Cursor.take_name" (defArgs s_Cursor_take_name) (defBody s_Cursor_take_name) (defScope s_Cursor_take_name) .none kV12 dc12 pm12 an12 cd12 ct12), sl12⟩)
    (c12 : PySem.W.codeIn K cd12 "Cursor.take_name" = true)
    (k12 : PySem.W.keepIn K (.ref f12) = true)
    (a13 : PySem.W.findIn K (.ref C_Cursor) "take_new_name" = some (some (.ref f13)))
    (i13 : PySem.W.isFn K (.ref f13) = true)
    (l13 : K.lookup f13 = some ⟨oc13, od13, .func (PySem.W.fnOf "take_new_name" "Cursor.take_new_name" (defArgs s_Cursor_take_new_name) (defBody s_Cursor_take_new_name) (defScope s_Cursor_take_new_name) .none kV13 dc13 pm13 an13 cd13 ct13), sl13⟩)
    (c13 : PySem.W.codeIn K cd13 "Cursor.take_new_name" = true)
    (k13 : PySem.W.keepIn K (.ref f13) = true)
    (a14 : PySem.W.nsIn K mainGlobals "_openings" = some (some (.ref f14)))
    (l14 : K.lookup f14 = some ⟨oc14, od14, .func (PySem.W.fnOf "_openings" "_openings" (defArgs s_openings) (defBody s_openings) (defScope s_openings) .none kV14 dc14 pm14 an14 cd14 ct14), sl14⟩)
    (c14 : PySem.W.codeIn K cd14 "_openings" = true)
    (k14 : PySem.W.keepIn K (.ref f14) = true)
    (a15 : PySem.W.nsIn K mainGlobals "_read_parts" = some (some (.ref f15)))
    (l15 : K.lookup f15 = some ⟨oc15, od15, .func (PySem.W.fnOf "_read_parts" "_read_parts" (defArgs s_read_parts) (defBody s_read_parts) (defScope s_read_parts) .none kV15 dc15 pm15 an15 cd15 ct15), sl15⟩)
    (c15 : PySem.W.codeIn K cd15 "_read_parts" = true)
    (k15 : PySem.W.keepIn K (.ref f15) = true)
    (a16 : PySem.W.nsIn K mainGlobals "read_expression" = some (some (.ref f16)))
    (l16 : K.lookup f16 = some ⟨oc16, od16, .func (PySem.W.fnOf "read_expression" "read_expression" (defArgs s_read_expression) (defBody s_read_expression) (defScope s_read_expression) .none (.ref Dk16) dc16 pm16 an16 cd16 ct16), sl16⟩)
    (c16 : PySem.W.codeIn K cd16 "read_expression" = true)
    (k16 : PySem.W.keepIn K (.ref f16) = true)
    (nk16_0 : PySem.W.nsIn K Dk16 "room" = some (some (.int 12 tko16_0)))
    (a17 : PySem.W.nsIn K mainGlobals "expression_words" = some (some (.ref f17)))
    (l17 : K.lookup f17 = some ⟨oc17, od17, .func (PySem.W.fnOf "expression_words" "expression_words" (defArgs s_expression_words) (defBody s_expression_words) (defScope s_expression_words) .none kV17 dc17 pm17 an17 cd17 ct17), sl17⟩)
    (c17 : PySem.W.codeIn K cd17 "expression_words" = true)
    (k17 : PySem.W.keepIn K (.ref f17) = true)
    (a18 : PySem.W.findIn K (.ref C_BlockReader) "_openings" = some (some (.ref f18)))
    (i18 : PySem.W.isFn K (.ref f18) = true)
    (l18 : K.lookup f18 = some ⟨oc18, od18, .func (PySem.W.fnOf "_openings" "BlockReader._openings" (defArgs s_BlockReader_openings) (defBody s_BlockReader_openings) (defScope s_BlockReader_openings) .none kV18 dc18 pm18 an18 cd18 ct18), sl18⟩)
    (c18 : PySem.W.codeIn K cd18 "BlockReader._openings" = true)
    (k18 : PySem.W.keepIn K (.ref f18) = true)
    (a19 : PySem.W.findIn K (.ref C_BlockReader) "_read_choice" = some (some (.ref f19)))
    (i19 : PySem.W.isFn K (.ref f19) = true)
    (l19 : K.lookup f19 = some ⟨oc19, od19, .func (PySem.W.fnOf "_read_choice" "BlockReader._read_choice" (defArgs s_BlockReader_read_choice) (defBody s_BlockReader_read_choice) (defScope s_BlockReader_read_choice) .none kV19 dc19 pm19 an19 cd19 ct19), sl19⟩)
    (c19 : PySem.W.codeIn K cd19 "BlockReader._read_choice" = true)
    (k19 : PySem.W.keepIn K (.ref f19) = true)
    (a20 : PySem.W.findIn K (.ref C_BlockReader) "_read_branches" = some (some (.ref f20)))
    (i20 : PySem.W.isFn K (.ref f20) = true)
    (l20 : K.lookup f20 = some ⟨oc20, od20, .func (PySem.W.fnOf "_read_branches" "BlockReader._read_branches" (defArgs s_BlockReader_read_branches) (defBody s_BlockReader_read_branches) (defScope s_BlockReader_read_branches) .none kV20 dc20 pm20 an20 cd20 ct20), sl20⟩)
    (c20 : PySem.W.codeIn K cd20 "BlockReader._read_branches" = true)
    (k20 : PySem.W.keepIn K (.ref f20) = true)
    (a21 : PySem.W.findIn K (.ref C_BlockReader) "_read_statement" = some (some (.ref f21)))
    (i21 : PySem.W.isFn K (.ref f21) = true)
    (l21 : K.lookup f21 = some ⟨oc21, od21, .func (PySem.W.fnOf "_read_statement" "BlockReader._read_statement" (defArgs s_BlockReader_read_statement) (defBody s_BlockReader_read_statement) (defScope s_BlockReader_read_statement) .none kV21 dc21 pm21 an21 cd21 ct21), sl21⟩)
    (c21 : PySem.W.codeIn K cd21 "BlockReader._read_statement" = true)
    (k21 : PySem.W.keepIn K (.ref f21) = true)
    (a22 : PySem.W.findIn K (.ref C_BlockReader) "read_block" = some (some (.ref f22)))
    (i22 : PySem.W.isFn K (.ref f22) = true)
    (l22 : K.lookup f22 = some ⟨oc22, od22, .func (PySem.W.fnOf "read_block" "BlockReader.read_block" (defArgs s_BlockReader_read_block) (defBody s_BlockReader_read_block) (defScope s_BlockReader_read_block) .none kV22 dc22 pm22 an22 cd22 ct22), sl22⟩)
    (c22 : PySem.W.codeIn K cd22 "BlockReader.read_block" = true)
    (k22 : PySem.W.keepIn K (.ref f22) = true)
    (a23 : PySem.W.nsIn K mainGlobals "_branch_words" = some (some (.ref f23)))
    (l23 : K.lookup f23 = some ⟨oc23, od23, .func (PySem.W.fnOf "_branch_words" "_branch_words" (defArgs s_branch_words) (defBody s_branch_words) (defScope s_branch_words) .none kV23 dc23 pm23 an23 cd23 ct23), sl23⟩)
    (c23 : PySem.W.codeIn K cd23 "_branch_words" = true)
    (k23 : PySem.W.keepIn K (.ref f23) = true)
    (a24 : PySem.W.nsIn K mainGlobals "_statement_words" = some (some (.ref f24)))
    (l24 : K.lookup f24 = some ⟨oc24, od24, .func (PySem.W.fnOf "_statement_words" "_statement_words" (defArgs s_statement_words) (defBody s_statement_words) (defScope s_statement_words) .none kV24 dc24 pm24 an24 cd24 ct24), sl24⟩)
    (c24 : PySem.W.codeIn K cd24 "_statement_words" = true)
    (k24 : PySem.W.keepIn K (.ref f24) = true)
    (a25 : PySem.W.nsIn K mainGlobals "block_words" = some (some (.ref f25)))
    (l25 : K.lookup f25 = some ⟨oc25, od25, .func (PySem.W.fnOf "block_words" "block_words" (defArgs s_block_words) (defBody s_block_words) (defScope s_block_words) .none kV25 dc25 pm25 an25 cd25 ct25), sl25⟩)
    (c25 : PySem.W.codeIn K cd25 "block_words" = true)
    (k25 : PySem.W.keepIn K (.ref f25) = true)
    (a26 : PySem.W.findIn K (.ref C_Game) "__eq__" = some (some (.ref f26)))
    (i26 : PySem.W.isFn K (.ref f26) = true)
    (l26 : K.lookup f26 = some ⟨oc26, od26, .func (PySem.W.fnOf "__eq__" "Game.__eq__" (defArgs s_Game_eq) (defBody s_Game_eq) (defScope s_Game_eq) .none kV26 dc26 pm26 an26 cd26 ct26), sl26⟩)
    (c26 : PySem.W.codeIn K cd26 "Game.__eq__" = true)
    (k26 : PySem.W.keepIn K (.ref f26) = true)
    (a27 : PySem.W.nsIn K mainGlobals "_names" = some (some (.ref f27)))
    (l27 : K.lookup f27 = some ⟨oc27, od27, .func (PySem.W.fnOf "_names" "_names" (defArgs s_names) (defBody s_names) (defScope s_names) .none kV27 dc27 pm27 an27 cd27 ct27), sl27⟩)
    (c27 : PySem.W.codeIn K cd27 "_names" = true)
    (k27 : PySem.W.keepIn K (.ref f27) = true)
    (a28 : PySem.W.nsIn K mainGlobals "_read_options" = some (some (.ref f28)))
    (l28 : K.lookup f28 = some ⟨oc28, od28, .func (PySem.W.fnOf "_read_options" "_read_options" (defArgs s_read_options) (defBody s_read_options) (defScope s_read_options) .none kV28 dc28 pm28 an28 cd28 ct28), sl28⟩)
    (c28 : PySem.W.codeIn K cd28 "_read_options" = true)
    (k28 : PySem.W.keepIn K (.ref f28) = true)
    (a29 : PySem.W.nsIn K mainGlobals "_read_variables" = some (some (.ref f29)))
    (l29 : K.lookup f29 = some ⟨oc29, od29, .func (PySem.W.fnOf "_read_variables" "_read_variables" (defArgs s_read_variables) (defBody s_read_variables) (defScope s_read_variables) .none kV29 dc29 pm29 an29 cd29 ct29), sl29⟩)
    (c29 : PySem.W.codeIn K cd29 "_read_variables" = true)
    (k29 : PySem.W.keepIn K (.ref f29) = true)
    (a30 : PySem.W.nsIn K mainGlobals "_read_rounds" = some (some (.ref f30)))
    (l30 : K.lookup f30 = some ⟨oc30, od30, .func (PySem.W.fnOf "_read_rounds" "_read_rounds" (defArgs s_read_rounds) (defBody s_read_rounds) (defScope s_read_rounds) .none kV30 dc30 pm30 an30 cd30 ct30), sl30⟩)
    (c30 : PySem.W.codeIn K cd30 "_read_rounds" = true)
    (k30 : PySem.W.keepIn K (.ref f30) = true)
    (a31 : PySem.W.nsIn K mainGlobals "read_game" = some (some (.ref f31)))
    (l31 : K.lookup f31 = some ⟨oc31, od31, .func (PySem.W.fnOf "read_game" "read_game" (defArgs s_read_game) (defBody s_read_game) (defScope s_read_game) .none kV31 dc31 pm31 an31 cd31 ct31), sl31⟩)
    (c31 : PySem.W.codeIn K cd31 "read_game" = true)
    (k31 : PySem.W.keepIn K (.ref f31) = true)
    (a32 : PySem.W.nsIn K mainGlobals "pieces_of" = some (some (.ref f32)))
    (l32 : K.lookup f32 = some ⟨oc32, od32, .func (PySem.W.fnOf "pieces_of" "pieces_of" (defArgs s_pieces_of) (defBody s_pieces_of) (defScope s_pieces_of) .none kV32 dc32 pm32 an32 cd32 ct32), sl32⟩)
    (c32 : PySem.W.codeIn K cd32 "pieces_of" = true)
    (k32 : PySem.W.keepIn K (.ref f32) = true)
    (a33 : PySem.W.nsIn K mainGlobals "game_text" = some (some (.ref f33)))
    (l33 : K.lookup f33 = some ⟨oc33, od33, .func (PySem.W.fnOf "game_text" "game_text" (defArgs s_game_text) (defBody s_game_text) (defScope s_game_text) .none kV33 dc33 pm33 an33 cd33 ct33), sl33⟩)
    (c33 : PySem.W.codeIn K cd33 "game_text" = true)
    (k33 : PySem.W.keepIn K (.ref f33) = true)
    (a34 : PySem.W.nsIn K mainGlobals "_law_pool" = some (some (.ref f34)))
    (l34 : K.lookup f34 = some ⟨oc34, od34, .func (PySem.W.fnOf "_law_pool" "_law_pool" (defArgs s_law_pool) (defBody s_law_pool) (defScope s_law_pool) .none kV34 dc34 pm34 an34 cd34 ct34), sl34⟩)
    (c34 : PySem.W.codeIn K cd34 "_law_pool" = true)
    (k34 : PySem.W.keepIn K (.ref f34) = true)
    (a35 : PySem.W.nsIn K mainGlobals "_law_draw" = some (some (.ref f35)))
    (l35 : K.lookup f35 = some ⟨oc35, od35, .func (PySem.W.fnOf "_law_draw" "_law_draw" (defArgs s_law_draw) (defBody s_law_draw) (defScope s_law_draw) .none kV35 dc35 pm35 an35 cd35 ct35), sl35⟩)
    (c35 : PySem.W.codeIn K cd35 "_law_draw" = true)
    (k35 : PySem.W.keepIn K (.ref f35) = true)
    (a36 : PySem.W.nsIn K mainGlobals "_law_same" = some (some (.ref f36)))
    (l36 : K.lookup f36 = some ⟨oc36, od36, .func (PySem.W.fnOf "_law_same" "_law_same" (defArgs s_law_same) (defBody s_law_same) (defScope s_law_same) .none kV36 dc36 pm36 an36 cd36 ct36), sl36⟩)
    (c36 : PySem.W.codeIn K cd36 "_law_same" = true)
    (k36 : PySem.W.keepIn K (.ref f36) = true)
    (a37 : PySem.W.nsIn K mainGlobals "_law_read" = some (some (.ref f37)))
    (l37 : K.lookup f37 = some ⟨oc37, od37, .func (PySem.W.fnOf "_law_read" "_law_read" (defArgs s_law_read) (defBody s_law_read) (defScope s_law_read) .none kV37 dc37 pm37 an37 cd37 ct37), sl37⟩)
    (c37 : PySem.W.codeIn K cd37 "_law_read" = true)
    (k37 : PySem.W.keepIn K (.ref f37) = true)
    (a38 : PySem.W.nsIn K mainGlobals "_law_many" = some (some (.ref f38)))
    (l38 : K.lookup f38 = some ⟨oc38, od38, .func (PySem.W.fnOf "_law_many" "_law_many" (defArgs s_law_many) (defBody s_law_many) (defScope s_law_many) .none kV38 dc38 pm38 an38 cd38 ct38), sl38⟩)
    (c38 : PySem.W.codeIn K cd38 "_law_many" = true)
    (k38 : PySem.W.keepIn K (.ref f38) = true)
    (a39 : PySem.W.nsIn K mainGlobals "_law_branchings" = some (some (.ref f39)))
    (l39 : K.lookup f39 = some ⟨oc39, od39, .func (PySem.W.fnOf "_law_branchings" "_law_branchings" (defArgs s_law_branchings) (defBody s_law_branchings) (defScope s_law_branchings) .none kV39 dc39 pm39 an39 cd39 ct39), sl39⟩)
    (c39 : PySem.W.codeIn K cd39 "_law_branchings" = true)
    (k39 : PySem.W.keepIn K (.ref f39) = true)
    (a40 : PySem.W.nsIn K mainGlobals "_law_deep" = some (some (.ref f40)))
    (l40 : K.lookup f40 = some ⟨oc40, od40, .func (PySem.W.fnOf "_law_deep" "_law_deep" (defArgs s_law_deep) (defBody s_law_deep) (defScope s_law_deep) .none kV40 dc40 pm40 an40 cd40 ct40), sl40⟩)
    (c40 : PySem.W.codeIn K cd40 "_law_deep" = true)
    (k40 : PySem.W.keepIn K (.ref f40) = true)
    (a41 : PySem.W.nsIn K mainGlobals "_law_deep_expression" = some (some (.ref f41)))
    (l41 : K.lookup f41 = some ⟨oc41, od41, .func (PySem.W.fnOf "_law_deep_expression" "_law_deep_expression" (defArgs s_law_deep_expression) (defBody s_law_deep_expression) (defScope s_law_deep_expression) .none kV41 dc41 pm41 an41 cd41 ct41), sl41⟩)
    (c41 : PySem.W.codeIn K cd41 "_law_deep_expression" = true)
    (k41 : PySem.W.keepIn K (.ref f41) = true)
    (a42 : PySem.W.nsIn K mainGlobals "_law_number_words" = some (some (.ref f42)))
    (l42 : K.lookup f42 = some ⟨oc42, od42, .func (PySem.W.fnOf "_law_number_words" "_law_number_words" (defArgs s_law_number_words) (defBody s_law_number_words) (defScope s_law_number_words) .none kV42 dc42 pm42 an42 cd42 ct42), sl42⟩)
    (c42 : PySem.W.codeIn K cd42 "_law_number_words" = true)
    (k42 : PySem.W.keepIn K (.ref f42) = true)
    (a43 : PySem.W.nsIn K mainGlobals "_law_else" = some (some (.ref f43)))
    (l43 : K.lookup f43 = some ⟨oc43, od43, .func (PySem.W.fnOf "_law_else" "_law_else" (defArgs s_law_else) (defBody s_law_else) (defScope s_law_else) .none kV43 dc43 pm43 an43 cd43 ct43), sl43⟩)
    (c43 : PySem.W.codeIn K cd43 "_law_else" = true)
    (k43 : PySem.W.keepIn K (.ref f43) = true)
    (a44 : PySem.W.nsIn K mainGlobals "_law_text" = some (some (.ref f44)))
    (l44 : K.lookup f44 = some ⟨oc44, od44, .func (PySem.W.fnOf "_law_text" "_law_text" (defArgs s_law_text) (defBody s_law_text) (defScope s_law_text) .none kV44 dc44 pm44 an44 cd44 ct44), sl44⟩)
    (c44 : PySem.W.codeIn K cd44 "_law_text" = true)
    (k44 : PySem.W.keepIn K (.ref f44) = true)
    (a45 : PySem.W.nsIn K mainGlobals "law" = some (some (.ref f45)))
    (l45 : K.lookup f45 = some ⟨oc45, od45, .func (PySem.W.fnOf "law" "law" (defArgs s_law) (defBody s_law) (defScope s_law) .none kV45 dc45 pm45 an45 cd45 ct45), sl45⟩)
    (c45 : PySem.W.codeIn K cd45 "law" = true)
    (k45 : PySem.W.keepIn K (.ref f45) = true)
    (z_all : PySem.W.nsIn K mainGlobals "all" = some none)
    (z_bool : PySem.W.nsIn K mainGlobals "bool" = some none)
    (z_int : PySem.W.nsIn K mainGlobals "int" = some none)
    (z_isinstance : PySem.W.nsIn K mainGlobals "isinstance" = some none)
    (z_len : PySem.W.nsIn K mainGlobals "len" = some none)
    (z_list : PySem.W.nsIn K mainGlobals "list" = some none)
    (z_range : PySem.W.nsIn K mainGlobals "range" = some none)
    (z_str : PySem.W.nsIn K mainGlobals "str" = some none)
    (z_tuple : PySem.W.nsIn K mainGlobals "tuple" = some none) :
    ∃ fd : FuncData, (∀ (s : Shared) (v : Value), BindsTo s fd ⟨[v], []⟩ [("script", v)]) ∧ ∀ base : Heap, K.In base → base.Ns mainGlobals mg → FnOk l.prog w K mg base CX0 62 fa fd ["script"] (spLaw K) := by
  have e := hfa.symm.trans (PySem.W.mg_of X G a45)
  cases e
  have FD1 : FunD K "__init__" "Cursor.__init__" (defArgs s_Cursor_init) (defBody s_Cursor_init) (defScope s_Cursor_init) [] [("options", .ref zo1_0), ("variables", .ref zo1_1), ("sees", .bl false)] f1 _ := ⟨⟨_, _, _, _, _, _, _, _, _, _, rfl, l1, c1, .inl ⟨rfl, rfl⟩, .inr ⟨_, rfl, (List.forall_mem_cons.mpr ⟨⟨_, nk1_0, (by first | exact ⟨_, rfl⟩ | rfl)⟩, (List.forall_mem_cons.mpr ⟨⟨_, nk1_1, (by first | exact ⟨_, rfl⟩ | rfl)⟩, (List.forall_mem_cons.mpr ⟨⟨_, nk1_2, (by first | exact ⟨_, rfl⟩ | rfl)⟩, (List.forall_mem_nil _)⟩)⟩)⟩)⟩⟩, k1⟩
  obtain ⟨ds1, vd1, bd1⟩ := FD1.binds0 (ps := ["self", "words", "options", "variables", "sees"]) 2 (by simp) rfl (fun D doc pm an cdv ct us ks h1 h2 => match us, ks, h1, h2 with | [_, _], [_, _, _], _, _ => ⟨_, _, _, _, _, _, rfl, rfl, _, _, _, _, _, _, rfl, rfl, _, _, _, _, _, _, rfl, rfl, rfl⟩)
  obtain ⟨mz1_options_variables, kb1_options_variables⟩ := FD1.kbinds0 (ps := ["self", "words", "options", "variables", "sees"]) 2 ["options", "variables"] [("sees", .bl false)] (fun us mv ws => us ++ (ws ++ mv)) (by simp) (by simp) (fun r1 r2 r3 => r1.append (r3.append r2)) (fun D doc pm an cdv ct us mv ws h1 h2 h3 => match us, mv, ws, h1, h2, h3 with | [_, _], [_], [_, _], _, _, _ => ⟨_, _, _, _, _, _, rfl, rfl, rfl⟩)
  have FD16 : FunD K "read_expression" "read_expression" (defArgs s_read_expression) (defBody s_read_expression) (defScope s_read_expression) [] [("room", .int 12)] f16 _ := ⟨⟨_, _, _, _, _, _, _, _, _, _, rfl, l16, c16, .inl ⟨rfl, rfl⟩, .inr ⟨_, rfl, (List.forall_mem_cons.mpr ⟨⟨_, nk16_0, (by first | exact ⟨_, rfl⟩ | rfl)⟩, (List.forall_mem_nil _)⟩)⟩⟩, k16⟩
  obtain ⟨ds16, vd16, bd16⟩ := FD16.binds0 (ps := ["cursor", "room"]) 1 (by simp) rfl (fun D doc pm an cdv ct us ks h1 h2 => match us, ks, h1, h2 with | [_], [_], _, _ => ⟨_, _, _, _, _, _, rfl, rfl, rfl⟩)
  obtain ⟨_, kb16⟩ := FD16.kbinds0 (ps := ["cursor", "room"]) 1 ["room"] [] (fun us _ ws => us ++ ws) (by simp) (by simp) (fun r1 _ r3 => r1.append r3) (fun D doc pm an cdv ct us mv ws h1 h2 h3 => match us, mv, ws, h1, h2, h3 with | [_], [], [_], _, _, _ => rfl)
  let T : Txt K mg := { C_Cursor := C_Cursor, m_Cursor := PySem.W.mg_of X G ac_Cursor, cl_Cursor := ⟨pg_Cursor, hd_Cursor, po_Cursor, sa_Cursor⟩, n_Cursor__words := na_Cursor__words, n_Cursor_options := na_Cursor_options, n_Cursor_variables := na_Cursor_variables, n_Cursor_sees := na_Cursor_sees, n_Cursor_at := na_Cursor_at, C_BlockReader := C_BlockReader, m_BlockReader := PySem.W.mg_of X G ac_BlockReader, cl_BlockReader := ⟨pg_BlockReader, hd_BlockReader, po_BlockReader, sa_BlockReader⟩, n_BlockReader__cursor := na_BlockReader__cursor, n_BlockReader__draws := na_BlockReader__draws, n_BlockReader__moves := na_BlockReader__moves, C_Game := C_Game, m_Game := PySem.W.mg_of X G ac_Game, cl_Game := ⟨pg_Game, hd_Game, po_Game, sa_Game⟩, n_Game_options := na_Game_options, n_Game_variables := na_Game_variables, n_Game_rounds := na_Game_rounds, ic_Game := ⟨⟨pg_Game, hd_Game, po_Game, sa_Game⟩, xa_Game, xn_Game, xt_Game, xm_Game, (by unfold PySem.W.kitOne; simp)⟩, C_GameError := C_GameError, m_GameError := PySem.W.mg_of X G ac_GameError, C_BadText := C_BadText, a_BadText_init := fe_BadText, d_BadText_init := _, m_BadText := PySem.W.mg_of X G ac_BadText, e_BadText := ⟨⟨⟨_, _, _, _, _, _, _, _, _, _, _, _, _, _, _, xl_BadText, rfl⟩, esa_BadText, exc_BadText, ety_BadText, ekp_BadText⟩, ⟨ega_BadText, egg_BadText, exc_BadText, ehd_BadText⟩, eno_BadText, ein_BadText, eit_BadText, ⟨_, _, _, _, _, _, _, _, _, _, _, _, _, _, _, _, _, _, rfl, elk_BadText, ecd_BadText, eco_BadText, evs_BadText, ecc_BadText, esu_BadText, evb_BadText, emr_BadText, opq⟩⟩, b_BadText_init := .all (fun us hl => match us, hl with | [_, _], _ => rfl), t_BadText := exm_self exc_BadText eic_BadText ety_BadText ess_BadText, i_BadText := ⟨eha_BadText, ehn, eht, ehm_BadText⟩, kv_BadText := kit_val evb_BadText, kk_BadText_BadText := kit_own ess_BadText eic_BadText ety_BadText ess_BadText, t_BadText_GameError := exm_sup re_GameError ri_GameError ert_GameError_BadText esr_GameError_BadText, kk_BadText_GameError := kit_own esr_GameError_BadText ri_GameError ert_GameError_BadText ess_BadText, z_super := PySem.W.mg_none_of X G z_super, v_LETTERS_AND_DIGITS := _, g_LETTERS_AND_DIGITS := PySem.W.mg_of X G ac_LETTERS_AND_DIGITS, r_LETTERS_AND_DIGITS := ⟨_, rfl⟩, v_LETTERS := _, g_LETTERS := PySem.W.mg_of X G ac_LETTERS, r_LETTERS := ⟨_, rfl⟩, A_KEY_WORDS := A_KEY_WORDS, g_KEY_WORDS := PySem.W.mg_of X G ac_KEY_WORDS, q_KEY_WORDS := fun H => .inr ⟨_, _, _, lk_KEY_WORDS, rfl, rfl, by show 26 ≤ sizeLine; decide, (.cons (by first | exact ⟨_, rfl⟩ | rfl) (.cons (by first | exact ⟨_, rfl⟩ | rfl) (.cons (by first | exact ⟨_, rfl⟩ | rfl) (.cons (by first | exact ⟨_, rfl⟩ | rfl) (.cons (by first | exact ⟨_, rfl⟩ | rfl) (.cons (by first | exact ⟨_, rfl⟩ | rfl) (.cons (by first | exact ⟨_, rfl⟩ | rfl) (.cons (by first | exact ⟨_, rfl⟩ | rfl) (.cons (by first | exact ⟨_, rfl⟩ | rfl) (.cons (by first | exact ⟨_, rfl⟩ | rfl) (.cons (by first | exact ⟨_, rfl⟩ | rfl) (.cons (by first | exact ⟨_, rfl⟩ | rfl) (.cons (by first | exact ⟨_, rfl⟩ | rfl) (.cons (by first | exact ⟨_, rfl⟩ | rfl) (.cons (by first | exact ⟨_, rfl⟩ | rfl) (.cons (by first | exact ⟨_, rfl⟩ | rfl) (.cons (by first | exact ⟨_, rfl⟩ | rfl) (.cons (by first | exact ⟨_, rfl⟩ | rfl) (.cons (by first | exact ⟨_, rfl⟩ | rfl) (.cons (by first | exact ⟨_, rfl⟩ | rfl) (.cons (by first | exact ⟨_, rfl⟩ | rfl) (.cons (by first | exact ⟨_, rfl⟩ | rfl) (.cons (by first | exact ⟨_, rfl⟩ | rfl) (.cons (by first | exact ⟨_, rfl⟩ | rfl) (.cons (by first | exact ⟨_, rfl⟩ | rfl) (.cons (by first | exact ⟨_, rfl⟩ | rfl) .nil))))))))))))))))))))))))))⟩, qd_KEY_WORDS := ⟨_, lk_KEY_WORDS, rfl, rfl⟩, v_LONGEST_NAME := _, g_LONGEST_NAME := PySem.W.mg_of X G ac_LONGEST_NAME, r_LONGEST_NAME := ⟨_, rfl⟩, v_GREATEST_NUMBER := _, g_GREATEST_NUMBER := PySem.W.mg_of X G ac_GREATEST_NUMBER, r_GREATEST_NUMBER := ⟨_, rfl⟩, v_LONGEST_NUMBER := _, g_LONGEST_NUMBER := PySem.W.mg_of X G ac_LONGEST_NUMBER, r_LONGEST_NUMBER := ⟨_, rfl⟩, A_OPERATORS := A_OPERATORS, g_OPERATORS := PySem.W.mg_of X G ac_OPERATORS, q_OPERATORS := fun H => .inr ⟨_, _, _, lk_OPERATORS, rfl, rfl, by show 7 ≤ sizeLine; decide, (.cons (by first | exact ⟨_, rfl⟩ | rfl) (.cons (by first | exact ⟨_, rfl⟩ | rfl) (.cons (by first | exact ⟨_, rfl⟩ | rfl) (.cons (by first | exact ⟨_, rfl⟩ | rfl) (.cons (by first | exact ⟨_, rfl⟩ | rfl) (.cons (by first | exact ⟨_, rfl⟩ | rfl) (.cons (by first | exact ⟨_, rfl⟩ | rfl) .nil)))))))⟩, qd_OPERATORS := ⟨_, lk_OPERATORS, rfl, rfl⟩, v_MOST_CHOICES := _, g_MOST_CHOICES := PySem.W.mg_of X G ac_MOST_CHOICES, r_MOST_CHOICES := ⟨_, rfl⟩, v_DEEPEST_BLOCK := _, g_DEEPEST_BLOCK := PySem.W.mg_of X G ac_DEEPEST_BLOCK, r_DEEPEST_BLOCK := ⟨_, rfl⟩, v_MOST_MOVES := _, g_MOST_MOVES := PySem.W.mg_of X G ac_MOST_MOVES, r_MOST_MOVES := ⟨_, rfl⟩, A_SEATS := A_SEATS, g_SEATS := PySem.W.mg_of X G ac_SEATS, q_SEATS := fun H => .inr ⟨_, _, _, lk_SEATS, rfl, rfl, by show 3 ≤ sizeLine; decide, (.cons (by first | exact ⟨_, rfl⟩ | rfl) (.cons (by first | exact ⟨_, rfl⟩ | rfl) (.cons (by first | exact ⟨_, rfl⟩ | rfl) .nil)))⟩, qd_SEATS := ⟨_, lk_SEATS, rfl, rfl⟩, v_MOST_RESULTS := _, g_MOST_RESULTS := PySem.W.mg_of X G ac_MOST_RESULTS, r_MOST_RESULTS := ⟨_, rfl⟩, v_MOST_OPTIONS := _, g_MOST_OPTIONS := PySem.W.mg_of X G ac_MOST_OPTIONS, r_MOST_OPTIONS := ⟨_, rfl⟩, v_MOST_VARIABLES := _, g_MOST_VARIABLES := PySem.W.mg_of X G ac_MOST_VARIABLES, r_MOST_VARIABLES := ⟨_, rfl⟩, v_MOST_ROUNDS := _, g_MOST_ROUNDS := PySem.W.mg_of X G ac_MOST_ROUNDS, r_MOST_ROUNDS := ⟨_, rfl⟩, zk_Cursor_init_1 := zo1_1, qzk_Cursor_init_1 := fun H => .inr ⟨_, _, _, zk1_1, rfl, rfl, by show 0 ≤ sizeLine; decide, .nil⟩, zk_Cursor_init_0 := zo1_0, qzk_Cursor_init_0 := fun H => .inr ⟨_, _, _, zk1_0, rfl, rfl, by show 0 ≤ sizeLine; decide, .nil⟩, a_Cursor_init := f1, d_Cursor_init := _, F_Cursor_init := FD1, ds_Cursor_init := ds1, v_Cursor_init := vd1, bd_Cursor_init := bd1, mz_Cursor_init_options_variables := mz1_options_variables, kb_Cursor_init_options_variables := kb1_options_variables, mk_Cursor := ⟨mkc_Cursor, a1, i1, kpc_Cursor⟩, a_BlockReader_init := f2, d_BlockReader_init := _, F_BlockReader_init := fun_mk (st := s_BlockReader_init) l2 c2 k2, b_BlockReader_init := (fun_mk (st := s_BlockReader_init) l2 c2 k2).binds (ps := ["self", "cursor"]) (fun _ _ _ _ _ _ us hl => match us, hl with | [_, _], _ => rfl), mk_BlockReader := ⟨mkc_BlockReader, a2, i2, kpc_BlockReader⟩, a_Game_init := f3, d_Game_init := _, F_Game_init := fun_mk (st := s_Game_init) l3 c3 k3, b_Game_init := (fun_mk (st := s_Game_init) l3 c3 k3).binds (ps := ["self", "options", "variables", "rounds"]) (fun _ _ _ _ _ _ us hl => match us, hl with | [_, _, _, _], _ => rfl), mk_Game := ⟨mkc_Game, a3, i3, kpc_Game⟩, a_split_words := f4, d_split_words := _, F_split_words := fun_mk (st := s_split_words) l4 c4 k4, b_split_words := (fun_mk (st := s_split_words) l4 c4 k4).binds (ps := ["text"]) (fun _ _ _ _ _ _ us hl => match us, hl with | [_], _ => rfl), m_split_words := PySem.W.mg_of X G a4, a_join_words := f5, d_join_words := _, F_join_words := fun_mk (st := s_join_words) l5 c5 k5, b_join_words := (fun_mk (st := s_join_words) l5 c5 k5).binds (ps := ["words"]) (fun _ _ _ _ _ _ us hl => match us, hl with | [_], _ => rfl), m_join_words := PySem.W.mg_of X G a5, a_is_name := f6, d_is_name := _, F_is_name := fun_mk (st := s_is_name) l6 c6 k6, b_is_name := (fun_mk (st := s_is_name) l6 c6 k6).binds (ps := ["word"]) (fun _ _ _ _ _ _ us hl => match us, hl with | [_], _ => rfl), m_is_name := PySem.W.mg_of X G a6, a_number_of := f7, d_number_of := _, F_number_of := fun_mk (st := s_number_of) l7 c7 k7, b_number_of := (fun_mk (st := s_number_of) l7 c7 k7).binds (ps := ["word"]) (fun _ _ _ _ _ _ us hl => match us, hl with | [_], _ => rfl), m_number_of := PySem.W.mg_of X G a7, a_Cursor_word := f8, d_Cursor_word := _, F_Cursor_word := fun_mk (st := s_Cursor_word) l8 c8 k8, b_Cursor_word := (fun_mk (st := s_Cursor_word) l8 c8 k8).binds (ps := ["self"]) (fun _ _ _ _ _ _ us hl => match us, hl with | [_], _ => rfl), p_Cursor_word := pp8, pr_Cursor_word := ⟨a8, pg8, pt8, ⟨_, pr8_⟩⟩, a_Cursor_pass_if := f9, d_Cursor_pass_if := _, F_Cursor_pass_if := fun_mk (st := s_Cursor_pass_if) l9 c9 k9, b_Cursor_pass_if := (fun_mk (st := s_Cursor_pass_if) l9 c9 k9).binds (ps := ["self", "fits"]) (fun _ _ _ _ _ _ us hl => match us, hl with | [_, _], _ => rfl), me_Cursor_pass_if := ⟨a9, i9, k9⟩, a_Cursor_take_word := f10, d_Cursor_take_word := _, F_Cursor_take_word := fun_mk (st := s_Cursor_take_word) l10 c10 k10, b_Cursor_take_word := (fun_mk (st := s_Cursor_take_word) l10 c10 k10).binds (ps := ["self", "word"]) (fun _ _ _ _ _ _ us hl => match us, hl with | [_, _], _ => rfl), me_Cursor_take_word := ⟨a10, i10, k10⟩, a_Cursor_take_number := f11, d_Cursor_take_number := _, F_Cursor_take_number := fun_mk (st := s_Cursor_take_number) l11 c11 k11, b_Cursor_take_number := (fun_mk (st := s_Cursor_take_number) l11 c11 k11).binds (ps := ["self", "least", "most"]) (fun _ _ _ _ _ _ us hl => match us, hl with | [_, _, _], _ => rfl), me_Cursor_take_number := ⟨a11, i11, k11⟩, a_Cursor_take_name := f12, d_Cursor_take_name := _, F_Cursor_take_name := fun_mk (st := s_Cursor_take_name) l12 c12 k12, b_Cursor_take_name := (fun_mk (st := s_Cursor_take_name) l12 c12 k12).binds (ps := ["self", "names"]) (fun _ _ _ _ _ _ us hl => match us, hl with | [_, _], _ => rfl), me_Cursor_take_name := ⟨a12, i12, k12⟩, a_Cursor_take_new_name := f13, d_Cursor_take_new_name := _, F_Cursor_take_new_name := fun_mk (st := s_Cursor_take_new_name) l13 c13 k13, b_Cursor_take_new_name := (fun_mk (st := s_Cursor_take_new_name) l13 c13 k13).binds (ps := ["self", "names"]) (fun _ _ _ _ _ _ us hl => match us, hl with | [_, _], _ => rfl), me_Cursor_take_new_name := ⟨a13, i13, k13⟩, a_openings := f14, d_openings := _, F_openings := fun_mk (st := s_openings) l14 c14 k14, b_openings := (fun_mk (st := s_openings) l14 c14 k14).binds (ps := ["cursor", "room"]) (fun _ _ _ _ _ _ us hl => match us, hl with | [_, _], _ => rfl), m_openings := PySem.W.mg_of X G a14, a_read_parts := f15, d_read_parts := _, F_read_parts := fun_mk (st := s_read_parts) l15 c15 k15, b_read_parts := (fun_mk (st := s_read_parts) l15 c15 k15).binds (ps := ["cursor", "word", "room"]) (fun _ _ _ _ _ _ us hl => match us, hl with | [_, _, _], _ => rfl), m_read_parts := PySem.W.mg_of X G a15, a_read_expression := f16, d_read_expression := _, F_read_expression := FD16, ds_read_expression := ds16, v_read_expression := vd16, bd_read_expression := bd16, kb_read_expression := kb16, m_read_expression := PySem.W.mg_of X G a16, a_expression_words := f17, d_expression_words := _, F_expression_words := fun_mk (st := s_expression_words) l17 c17 k17, b_expression_words := (fun_mk (st := s_expression_words) l17 c17 k17).binds (ps := ["expression"]) (fun _ _ _ _ _ _ us hl => match us, hl with | [_], _ => rfl), m_expression_words := PySem.W.mg_of X G a17, a_BlockReader_openings := f18, d_BlockReader_openings := _, F_BlockReader_openings := fun_mk (st := s_BlockReader_openings) l18 c18 k18, b_BlockReader_openings := (fun_mk (st := s_BlockReader_openings) l18 c18 k18).binds (ps := ["self", "depth"]) (fun _ _ _ _ _ _ us hl => match us, hl with | [_, _], _ => rfl), me_BlockReader_openings := ⟨a18, i18, k18⟩, a_BlockReader_read_choice := f19, d_BlockReader_read_choice := _, F_BlockReader_read_choice := fun_mk (st := s_BlockReader_read_choice) l19 c19 k19, b_BlockReader_read_choice := (fun_mk (st := s_BlockReader_read_choice) l19 c19 k19).binds (ps := ["self", "word"]) (fun _ _ _ _ _ _ us hl => match us, hl with | [_, _], _ => rfl), me_BlockReader_read_choice := ⟨a19, i19, k19⟩, a_BlockReader_read_branches := f20, d_BlockReader_read_branches := _, F_BlockReader_read_branches := fun_mk (st := s_BlockReader_read_branches) l20 c20 k20, b_BlockReader_read_branches := (fun_mk (st := s_BlockReader_read_branches) l20 c20 k20).binds (ps := ["self", "word", "test", "depth"]) (fun _ _ _ _ _ _ us hl => match us, hl with | [_, _, _, _], _ => rfl), me_BlockReader_read_branches := ⟨a20, i20, k20⟩, a_BlockReader_read_statement := f21, d_BlockReader_read_statement := _, F_BlockReader_read_statement := fun_mk (st := s_BlockReader_read_statement) l21 c21 k21, b_BlockReader_read_statement := (fun_mk (st := s_BlockReader_read_statement) l21 c21 k21).binds (ps := ["self", "depth"]) (fun _ _ _ _ _ _ us hl => match us, hl with | [_, _], _ => rfl), me_BlockReader_read_statement := ⟨a21, i21, k21⟩, a_BlockReader_read_block := f22, d_BlockReader_read_block := _, F_BlockReader_read_block := fun_mk (st := s_BlockReader_read_block) l22 c22 k22, b_BlockReader_read_block := (fun_mk (st := s_BlockReader_read_block) l22 c22 k22).binds (ps := ["self", "depth"]) (fun _ _ _ _ _ _ us hl => match us, hl with | [_, _], _ => rfl), me_BlockReader_read_block := ⟨a22, i22, k22⟩, a_branch_words := f23, d_branch_words := _, F_branch_words := fun_mk (st := s_branch_words) l23 c23 k23, b_branch_words := (fun_mk (st := s_branch_words) l23 c23 k23).binds (ps := ["statement"]) (fun _ _ _ _ _ _ us hl => match us, hl with | [_], _ => rfl), m_branch_words := PySem.W.mg_of X G a23, a_statement_words := f24, d_statement_words := _, F_statement_words := fun_mk (st := s_statement_words) l24 c24 k24, b_statement_words := (fun_mk (st := s_statement_words) l24 c24 k24).binds (ps := ["statement"]) (fun _ _ _ _ _ _ us hl => match us, hl with | [_], _ => rfl), m_statement_words := PySem.W.mg_of X G a24, a_block_words := f25, d_block_words := _, F_block_words := fun_mk (st := s_block_words) l25 c25 k25, b_block_words := (fun_mk (st := s_block_words) l25 c25 k25).binds (ps := ["block"]) (fun _ _ _ _ _ _ us hl => match us, hl with | [_], _ => rfl), m_block_words := PySem.W.mg_of X G a25, a_Game_eq := f26, d_Game_eq := _, F_Game_eq := fun_mk (st := s_Game_eq) l26 c26 k26, b_Game_eq := (fun_mk (st := s_Game_eq) l26 c26 k26).binds (ps := ["self", "other"]) (fun _ _ _ _ _ _ us hl => match us, hl with | [_, _], _ => rfl), me_Game_eq := ⟨a26, i26, k26⟩, a_names := f27, d_names := _, F_names := fun_mk (st := s_names) l27 c27 k27, b_names := (fun_mk (st := s_names) l27 c27 k27).binds (ps := ["pairs"]) (fun _ _ _ _ _ _ us hl => match us, hl with | [_], _ => rfl), m_names := PySem.W.mg_of X G a27, a_read_options := f28, d_read_options := _, F_read_options := fun_mk (st := s_read_options) l28 c28 k28, b_read_options := (fun_mk (st := s_read_options) l28 c28 k28).binds (ps := ["cursor"]) (fun _ _ _ _ _ _ us hl => match us, hl with | [_], _ => rfl), m_read_options := PySem.W.mg_of X G a28, a_read_variables := f29, d_read_variables := _, F_read_variables := fun_mk (st := s_read_variables) l29 c29 k29, b_read_variables := (fun_mk (st := s_read_variables) l29 c29 k29).binds (ps := ["cursor"]) (fun _ _ _ _ _ _ us hl => match us, hl with | [_], _ => rfl), m_read_variables := PySem.W.mg_of X G a29, a_read_rounds := f30, d_read_rounds := _, F_read_rounds := fun_mk (st := s_read_rounds) l30 c30 k30, b_read_rounds := (fun_mk (st := s_read_rounds) l30 c30 k30).binds (ps := ["cursor"]) (fun _ _ _ _ _ _ us hl => match us, hl with | [_], _ => rfl), m_read_rounds := PySem.W.mg_of X G a30, a_read_game := f31, d_read_game := _, F_read_game := fun_mk (st := s_read_game) l31 c31 k31, b_read_game := (fun_mk (st := s_read_game) l31 c31 k31).binds (ps := ["text"]) (fun _ _ _ _ _ _ us hl => match us, hl with | [_], _ => rfl), m_read_game := PySem.W.mg_of X G a31, a_pieces_of := f32, d_pieces_of := _, F_pieces_of := fun_mk (st := s_pieces_of) l32 c32 k32, b_pieces_of := (fun_mk (st := s_pieces_of) l32 c32 k32).binds (ps := ["game"]) (fun _ _ _ _ _ _ us hl => match us, hl with | [_], _ => rfl), m_pieces_of := PySem.W.mg_of X G a32, a_game_text := f33, d_game_text := _, F_game_text := fun_mk (st := s_game_text) l33 c33 k33, b_game_text := (fun_mk (st := s_game_text) l33 c33 k33).binds (ps := ["game"]) (fun _ _ _ _ _ _ us hl => match us, hl with | [_], _ => rfl), m_game_text := PySem.W.mg_of X G a33, a_law_pool := f34, d_law_pool := _, F_law_pool := fun_mk (st := s_law_pool) l34 c34 k34, b_law_pool := (fun_mk (st := s_law_pool) l34 c34 k34).binds (ps := ["script", "budget"]) (fun _ _ _ _ _ _ us hl => match us, hl with | [_, _], _ => rfl), m_law_pool := PySem.W.mg_of X G a34, a_law_draw := f35, d_law_draw := _, F_law_draw := fun_mk (st := s_law_draw) l35 c35 k35, b_law_draw := (fun_mk (st := s_law_draw) l35 c35 k35).binds (ps := ["pool", "size"]) (fun _ _ _ _ _ _ us hl => match us, hl with | [_, _], _ => rfl), m_law_draw := PySem.W.mg_of X G a35, a_law_same := f36, d_law_same := _, F_law_same := fun_mk (st := s_law_same) l36 c36 k36, b_law_same := (fun_mk (st := s_law_same) l36 c36 k36).binds (ps := ["actual", "due"]) (fun _ _ _ _ _ _ us hl => match us, hl with | [_, _], _ => rfl), m_law_same := PySem.W.mg_of X G a36, a_law_read := f37, d_law_read := _, F_law_read := fun_mk (st := s_law_read) l37 c37 k37, b_law_read := (fun_mk (st := s_law_read) l37 c37 k37).binds (ps := ["text"]) (fun _ _ _ _ _ _ us hl => match us, hl with | [_], _ => rfl), m_law_read := PySem.W.mg_of X G a37, a_law_many := f38, d_law_many := _, F_law_many := fun_mk (st := s_law_many) l38 c38 k38, b_law_many := (fun_mk (st := s_law_many) l38 c38 k38).binds (ps := ["pool", "word", "rest", "most"]) (fun _ _ _ _ _ _ us hl => match us, hl with | [_, _, _, _], _ => rfl), m_law_many := PySem.W.mg_of X G a38, a_law_branchings := f39, d_law_branchings := _, F_law_branchings := fun_mk (st := s_law_branchings) l39 c39 k39, b_law_branchings := (fun_mk (st := s_law_branchings) l39 c39 k39).binds (ps := ["pool"]) (fun _ _ _ _ _ _ us hl => match us, hl with | [_], _ => rfl), m_law_branchings := PySem.W.mg_of X G a39, a_law_deep := f40, d_law_deep := _, F_law_deep := fun_mk (st := s_law_deep) l40 c40 k40, b_law_deep := (fun_mk (st := s_law_deep) l40 c40 k40).binds (ps := ["pool"]) (fun _ _ _ _ _ _ us hl => match us, hl with | [_], _ => rfl), m_law_deep := PySem.W.mg_of X G a40, a_law_deep_expression := f41, d_law_deep_expression := _, F_law_deep_expression := fun_mk (st := s_law_deep_expression) l41 c41 k41, b_law_deep_expression := (fun_mk (st := s_law_deep_expression) l41 c41 k41).binds (ps := ["pool"]) (fun _ _ _ _ _ _ us hl => match us, hl with | [_], _ => rfl), m_law_deep_expression := PySem.W.mg_of X G a41, a_law_number_words := f42, d_law_number_words := _, F_law_number_words := fun_mk (st := s_law_number_words) l42 c42 k42, b_law_number_words := (fun_mk (st := s_law_number_words) l42 c42 k42).binds (ps := ["pool"]) (fun _ _ _ _ _ _ us hl => match us, hl with | [_], _ => rfl), m_law_number_words := PySem.W.mg_of X G a42, a_law_else := f43, d_law_else := _, F_law_else := fun_mk (st := s_law_else) l43 c43 k43, b_law_else := (fun_mk (st := s_law_else) l43 c43 k43).binds (ps := ["pool"]) (fun _ _ _ _ _ _ us hl => match us, hl with | [_], _ => rfl), m_law_else := PySem.W.mg_of X G a43, a_law_text := f44, d_law_text := _, F_law_text := fun_mk (st := s_law_text) l44 c44 k44, b_law_text := (fun_mk (st := s_law_text) l44 c44 k44).binds (ps := ["pool"]) (fun _ _ _ _ _ _ us hl => match us, hl with | [_], _ => rfl), m_law_text := PySem.W.mg_of X G a44, a_law := fa, d_law := _, F_law := fun_mk (st := s_law) l45 c45 k45, b_law := (fun_mk (st := s_law) l45 c45 k45).binds (ps := ["script"]) (fun _ _ _ _ _ _ us hl => match us, hl with | [_], _ => rfl), m_law := PySem.W.mg_of X G a45, z_all := PySem.W.mg_none_of X G z_all, z_bool := PySem.W.mg_none_of X G z_bool, z_int := PySem.W.mg_none_of X G z_int, z_isinstance := PySem.W.mg_none_of X G z_isinstance, z_len := PySem.W.mg_none_of X G z_len, z_list := PySem.W.mg_none_of X G z_list, z_range := PySem.W.mg_none_of X G z_range, z_str := PySem.W.mg_none_of X G z_str, z_tuple := PySem.W.mg_none_of X G z_tuple }
  exact ⟨T.d_law, fun s v => .of_eq rfl, fun base _ _ => ok_law T⟩
end Own
open PySem PySem.W PyProof.Rows
set_option maxHeartbeats 0 in
theorem PySem.Challenge.cw_sureplay_k18_bounds_of_a_game_holds : PySem.Challenge.rw_sureplay_k18_bounds_of_a_game.Holds := by
  w_on; o_law; k_head; (case hw => w_witness2)
  k_fill
  refine L2.walk_of (l := PySem.Challenge.rw_sureplay_k18_bounds_of_a_game) (n := 63) (k := 62) (x := "script") (CX := fun _ => L2.CX0) (sp := fun w => Own.spLaw _) rfl (by decide) rfl ⟨rfl, by decide, by decide⟩ (fun w h Y => PySem.W.kIn_of Y) ?F (fun _ _ a ns hl _ hS => ⟨a, ns, rfl, hS, hl, fun _ => rfl⟩) (fun _ _ _ _ _ h => h)
  case F =>
    intro w mg fa h KX G hmg
    haveI pro : Own.PrOk PySem.Challenge.rw_sureplay_k18_bounds_of_a_game.prog := ⟨by decide +kernel, by decide +kernel⟩
    refine' Own.all_mk KX G hmg ?ac_Cursor ?pg_Cursor ?hd_Cursor ?po_Cursor ?sa_Cursor ?mkc_Cursor ?kpc_Cursor ?na_Cursor__words ?na_Cursor_options ?na_Cursor_variables ?na_Cursor_sees ?na_Cursor_at ?ac_BlockReader ?pg_BlockReader ?hd_BlockReader ?po_BlockReader ?sa_BlockReader ?mkc_BlockReader ?kpc_BlockReader ?na_BlockReader__cursor ?na_BlockReader__draws ?na_BlockReader__moves ?ac_Game ?pg_Game ?hd_Game ?po_Game ?sa_Game ?mkc_Game ?kpc_Game ?na_Game_options ?na_Game_variables ?na_Game_rounds ?xa_Game ?xn_Game ?xt_Game ?xm_Game ?ac_GameError ?re_GameError ?ri_GameError ?ac_BadText ?xl_BadText ?esa_BadText ?exc_BadText ?ety_BadText ?ekp_BadText ?ega_BadText ?egg_BadText ?ehd_BadText ?eno_BadText ?ein_BadText ?eit_BadText ?eic_BadText ?ess_BadText ?elk_BadText ?ecd_BadText ?eco_BadText ?evs_BadText ?ecc_BadText ?esu_BadText ?evb_BadText ?emr_BadText ?eha_BadText ?ehm_BadText ?esr_GameError_BadText ?ert_GameError_BadText ?ehn ?eht ?opq ?z_super ?ac_LETTERS_AND_DIGITS ?ac_LETTERS ?ac_KEY_WORDS ?lk_KEY_WORDS ?ac_LONGEST_NAME ?ac_GREATEST_NUMBER ?ac_LONGEST_NUMBER ?ac_OPERATORS ?lk_OPERATORS ?ac_MOST_CHOICES ?ac_DEEPEST_BLOCK ?ac_MOST_MOVES ?ac_SEATS ?lk_SEATS ?ac_MOST_RESULTS ?ac_MOST_OPTIONS ?ac_MOST_VARIABLES ?ac_MOST_ROUNDS ?a1 ?i1 ?l1 ?c1 ?k1 ?nk1_2 ?nk1_1 ?zk1_1 ?nk1_0 ?zk1_0 ?a2 ?i2 ?l2 ?c2 ?k2 ?a3 ?i3 ?l3 ?c3 ?k3 ?a4 ?l4 ?c4 ?k4 ?a5 ?l5 ?c5 ?k5 ?a6 ?l6 ?c6 ?k6 ?a7 ?l7 ?c7 ?k7 ?a8 ?pg8 ?pt8 ?pr8_ ?l8 ?c8 ?k8 ?a9 ?i9 ?l9 ?c9 ?k9 ?a10 ?i10 ?l10 ?c10 ?k10 ?a11 ?i11 ?l11 ?c11 ?k11 ?a12 ?i12 ?l12 ?c12 ?k12 ?a13 ?i13 ?l13 ?c13 ?k13 ?a14 ?l14 ?c14 ?k14 ?a15 ?l15 ?c15 ?k15 ?a16 ?l16 ?c16 ?k16 ?nk16_0 ?a17 ?l17 ?c17 ?k17 ?a18 ?i18 ?l18 ?c18 ?k18 ?a19 ?i19 ?l19 ?c19 ?k19 ?a20 ?i20 ?l20 ?c20 ?k20 ?a21 ?i21 ?l21 ?c21 ?k21 ?a22 ?i22 ?l22 ?c22 ?k22 ?a23 ?l23 ?c23 ?k23 ?a24 ?l24 ?c24 ?k24 ?a25 ?l25 ?c25 ?k25 ?a26 ?i26 ?l26 ?c26 ?k26 ?a27 ?l27 ?c27 ?k27 ?a28 ?l28 ?c28 ?k28 ?a29 ?l29 ?c29 ?k29 ?a30 ?l30 ?c30 ?k30 ?a31 ?l31 ?c31 ?k31 ?a32 ?l32 ?c32 ?k32 ?a33 ?l33 ?c33 ?k33 ?a34 ?l34 ?c34 ?k34 ?a35 ?l35 ?c35 ?k35 ?a36 ?l36 ?c36 ?k36 ?a37 ?l37 ?c37 ?k37 ?a38 ?l38 ?c38 ?k38 ?a39 ?l39 ?c39 ?k39 ?a40 ?l40 ?c40 ?k40 ?a41 ?l41 ?c41 ?k41 ?a42 ?l42 ?c42 ?k42 ?a43 ?l43 ?c43 ?k43 ?a44 ?l44 ?c44 ?k44 ?a45 ?l45 ?c45 ?k45 ?z_all ?z_bool ?z_int ?z_isinstance ?z_len ?z_list ?z_range ?z_str ?z_tuple
    (case ac_Cursor => k_is)
    (case ac_BlockReader => k_is)
    (case ac_Game => k_is)
    (case ac_GameError => k_is)
    (case ac_BadText => k_is)
    (case ac_LETTERS_AND_DIGITS => k_is)
    (case ac_LETTERS => k_is)
    (case ac_KEY_WORDS => k_is)
    (case ac_LONGEST_NAME => k_is)
    (case ac_GREATEST_NUMBER => k_is)
    (case ac_LONGEST_NUMBER => k_is)
    (case ac_OPERATORS => k_is)
    (case ac_MOST_CHOICES => k_is)
    (case ac_DEEPEST_BLOCK => k_is)
    (case ac_MOST_MOVES => k_is)
    (case ac_SEATS => k_is)
    (case ac_MOST_RESULTS => k_is)
    (case ac_MOST_OPTIONS => k_is)
    (case ac_MOST_VARIABLES => k_is)
    (case ac_MOST_ROUNDS => k_is)
    (case pg_Cursor => k_is)
    (case hd_Cursor => k_is)
    (case po_Cursor => k_is)
    (case sa_Cursor => k_is)
    (case mkc_Cursor => k_is)
    (case kpc_Cursor => k_is)
    (case na_Cursor__words => k_is)
    (case na_Cursor_options => k_is)
    (case na_Cursor_variables => k_is)
    (case na_Cursor_sees => k_is)
    (case na_Cursor_at => k_is)
    (case pg_BlockReader => k_is)
    (case hd_BlockReader => k_is)
    (case po_BlockReader => k_is)
    (case sa_BlockReader => k_is)
    (case mkc_BlockReader => k_is)
    (case kpc_BlockReader => k_is)
    (case na_BlockReader__cursor => k_is)
    (case na_BlockReader__draws => k_is)
    (case na_BlockReader__moves => k_is)
    (case pg_Game => k_is)
    (case hd_Game => k_is)
    (case po_Game => k_is)
    (case sa_Game => k_is)
    (case mkc_Game => k_is)
    (case kpc_Game => k_is)
    (case na_Game_options => k_is)
    (case na_Game_variables => k_is)
    (case na_Game_rounds => k_is)
    (case xa_Game => k_is)
    (case xn_Game => k_is)
    (case xt_Game => k_is)
    (case xm_Game => k_is)
    (case re_GameError => k_is)
    (case ri_GameError => k_is)
    (case xl_BadText => k_is)
    (case esa_BadText => k_is)
    (case exc_BadText => k_is)
    (case ety_BadText => k_is)
    (case ekp_BadText => k_is)
    (case ega_BadText => k_is)
    (case egg_BadText => k_is)
    (case ehd_BadText => k_is)
    (case eno_BadText => k_is)
    (case ein_BadText => k_is)
    (case eit_BadText => k_is)
    (case eic_BadText => k_is)
    (case ess_BadText => first | rfl | k_is)
    (case elk_BadText => k_is)
    (case ecd_BadText => k_is)
    (case eco_BadText => k_is)
    (case evs_BadText => first | rfl | decide +kernel)
    (case ecc_BadText => k_is)
    (case esu_BadText => ks_is)
    (case evb_BadText => k_is)
    (case emr_BadText => k_is)
    (case eha_BadText => k_is)
    (case ehm_BadText => k_is)
    (case esr_GameError_BadText => first | rfl | k_is)
    (case ert_GameError_BadText => k_is)
    (case ehn => k_is)
    (case eht => k_is)
    (case opq => k_is)
    (case z_super => k_is)
    (case lk_KEY_WORDS => k_is)
    (case lk_OPERATORS => k_is)
    (case lk_SEATS => k_is)
    (case a1 => k_is)
    (case i1 => k_is)
    (case l1 => k_is)
    (case c1 => k_is)
    (case k1 => k_is)
    (case nk1_2 => k_is)
    (case nk1_1 => k_is)
    (case zk1_1 => k_is)
    (case nk1_0 => k_is)
    (case zk1_0 => k_is)
    (case a2 => k_is)
    (case i2 => k_is)
    (case l2 => k_is)
    (case c2 => k_is)
    (case k2 => k_is)
    (case a3 => k_is)
    (case i3 => k_is)
    (case l3 => k_is)
    (case c3 => k_is)
    (case k3 => k_is)
    (case a4 => k_is)
    (case l4 => k_is)
    (case c4 => k_is)
    (case k4 => k_is)
    (case a5 => k_is)
    (case l5 => k_is)
    (case c5 => k_is)
    (case k5 => k_is)
    (case a6 => k_is)
    (case l6 => k_is)
    (case c6 => k_is)
    (case k6 => k_is)
    (case a7 => k_is)
    (case l7 => k_is)
    (case c7 => k_is)
    (case k7 => k_is)
    (case a8 => k_is)
    (case pg8 => k_is)
    (case pt8 => k_is)
    (case pr8_ => k_is)
    (case l8 => k_is)
    (case c8 => k_is)
    (case k8 => k_is)
    (case a9 => k_is)
    (case i9 => k_is)
    (case l9 => k_is)
    (case c9 => k_is)
    (case k9 => k_is)
    (case a10 => k_is)
    (case i10 => k_is)
    (case l10 => k_is)
    (case c10 => k_is)
    (case k10 => k_is)
    (case a11 => k_is)
    (case i11 => k_is)
    (case l11 => k_is)
    (case c11 => k_is)
    (case k11 => k_is)
    (case a12 => k_is)
    (case i12 => k_is)
    (case l12 => k_is)
    (case c12 => k_is)
    (case k12 => k_is)
    (case a13 => k_is)
    (case i13 => k_is)
    (case l13 => k_is)
    (case c13 => k_is)
    (case k13 => k_is)
    (case a14 => k_is)
    (case l14 => k_is)
    (case c14 => k_is)
    (case k14 => k_is)
    (case a15 => k_is)
    (case l15 => k_is)
    (case c15 => k_is)
    (case k15 => k_is)
    (case a16 => k_is)
    (case l16 => k_is)
    (case c16 => k_is)
    (case k16 => k_is)
    (case nk16_0 => k_is)
    (case a17 => k_is)
    (case l17 => k_is)
    (case c17 => k_is)
    (case k17 => k_is)
    (case a18 => k_is)
    (case i18 => k_is)
    (case l18 => k_is)
    (case c18 => k_is)
    (case k18 => k_is)
    (case a19 => k_is)
    (case i19 => k_is)
    (case l19 => k_is)
    (case c19 => k_is)
    (case k19 => k_is)
    (case a20 => k_is)
    (case i20 => k_is)
    (case l20 => k_is)
    (case c20 => k_is)
    (case k20 => k_is)
    (case a21 => k_is)
    (case i21 => k_is)
    (case l21 => k_is)
    (case c21 => k_is)
    (case k21 => k_is)
    (case a22 => k_is)
    (case i22 => k_is)
    (case l22 => k_is)
    (case c22 => k_is)
    (case k22 => k_is)
    (case a23 => k_is)
    (case l23 => k_is)
    (case c23 => k_is)
    (case k23 => k_is)
    (case a24 => k_is)
    (case l24 => k_is)
    (case c24 => k_is)
    (case k24 => k_is)
    (case a25 => k_is)
    (case l25 => k_is)
    (case c25 => k_is)
    (case k25 => k_is)
    (case a26 => k_is)
    (case i26 => k_is)
    (case l26 => k_is)
    (case c26 => k_is)
    (case k26 => k_is)
    (case a27 => k_is)
    (case l27 => k_is)
    (case c27 => k_is)
    (case k27 => k_is)
    (case a28 => k_is)
    (case l28 => k_is)
    (case c28 => k_is)
    (case k28 => k_is)
    (case a29 => k_is)
    (case l29 => k_is)
    (case c29 => k_is)
    (case k29 => k_is)
    (case a30 => k_is)
    (case l30 => k_is)
    (case c30 => k_is)
    (case k30 => k_is)
    (case a31 => k_is)
    (case l31 => k_is)
    (case c31 => k_is)
    (case k31 => k_is)
    (case a32 => k_is)
    (case l32 => k_is)
    (case c32 => k_is)
    (case k32 => k_is)
    (case a33 => k_is)
    (case l33 => k_is)
    (case c33 => k_is)
    (case k33 => k_is)
    (case a34 => k_is)
    (case l34 => k_is)
    (case c34 => k_is)
    (case k34 => k_is)
    (case a35 => k_is)
    (case l35 => k_is)
    (case c35 => k_is)
    (case k35 => k_is)
    (case a36 => k_is)
    (case l36 => k_is)
    (case c36 => k_is)
    (case k36 => k_is)
    (case a37 => k_is)
    (case l37 => k_is)
    (case c37 => k_is)
    (case k37 => k_is)
    (case a38 => k_is)
    (case l38 => k_is)
    (case c38 => k_is)
    (case k38 => k_is)
    (case a39 => k_is)
    (case l39 => k_is)
    (case c39 => k_is)
    (case k39 => k_is)
    (case a40 => k_is)
    (case l40 => k_is)
    (case c40 => k_is)
    (case k40 => k_is)
    (case a41 => k_is)
    (case l41 => k_is)
    (case c41 => k_is)
    (case k41 => k_is)
    (case a42 => k_is)
    (case l42 => k_is)
    (case c42 => k_is)
    (case k42 => k_is)
    (case a43 => k_is)
    (case l43 => k_is)
    (case c43 => k_is)
    (case k43 => k_is)
    (case a44 => k_is)
    (case l44 => k_is)
    (case c44 => k_is)
    (case k44 => k_is)
    (case a45 => k_is)
    (case l45 => k_is)
    (case c45 => k_is)
    (case k45 => k_is)
    (case z_all => k_is)
    (case z_bool => k_is)
    (case z_int => k_is)
    (case z_isinstance => k_is)
    (case z_len => k_is)
    (case z_list => k_is)
    (case z_range => k_is)
    (case z_str => k_is)
    (case z_tuple => k_is)
#print axioms PySem.Challenge.cw_sureplay_k18_bounds_of_a_game_holds
