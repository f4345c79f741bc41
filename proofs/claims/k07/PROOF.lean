import PyProof.Rows.All
import Wide.All
import OpenK.AllK
import Wide.FinOn
import HandS.ForMost
import HandS.IsInst
import HandS.Codes
import PySem.Challenge.RW_sureplay_k07_what_a_number_falls_on
set_option Elab.async false
set_option linter.all false
set_option maxRecDepth 100000
set_option maxHeartbeats 4000000
namespace Own
open PySem PySem.Spec PyProof.Rows L2
def topS (i : Nat) : Stmt := PySem.Challenge.pw_sureplay_k07_what_a_number_falls_on.main.body.getD i (.Pass ⟨0, 0, 0, 0⟩)
abbrev s_fall : Stmt := (topS 1)
abbrev N_fall : List Str := ["weights", "n", "index", "rest"]
theorem sc_fall : FnScope N_fall ["weights", "n"] (defScope s_fall) := ⟨rfl, rfl, rfl, by decide +kernel, rfl, by decide +kernel, by decide +kernel⟩
abbrev s_law_cell : Stmt := (topS 3)
abbrev N_law_cell : List Str := ["script", "k"]
theorem sc_law_cell : FnScope N_law_cell ["script", "k"] (defScope s_law_cell) := ⟨rfl, rfl, rfl, by decide +kernel, rfl, by decide +kernel, by decide +kernel⟩
abbrev s_law_is_integer : Stmt := (topS 4)
abbrev N_law_is_integer : List Str := ["actual"]
theorem sc_law_is_integer : FnScope N_law_is_integer ["actual"] (defScope s_law_is_integer) := ⟨rfl, rfl, rfl, by decide +kernel, rfl, by decide +kernel, by decide +kernel⟩
abbrev s_law_weight : Stmt := (topS 5)
abbrev N_law_weight : List Str := ["cell"]
theorem sc_law_weight : FnScope N_law_weight ["cell"] (defScope s_law_weight) := ⟨rfl, rfl, rfl, by decide +kernel, rfl, by decide +kernel, by decide +kernel⟩
abbrev s_law : Stmt := (topS 6)
abbrev N_law : List Str := ["script", "weights", "kept", "whole", "place", "number", "actual", "cell"]
theorem sc_law : FnScope N_law ["script"] (defScope s_law) := ⟨rfl, rfl, rfl, by decide +kernel, rfl, by decide +kernel, by decide +kernel⟩
def spLaw (K : PySem.W.Frag) : Sp := fun vs H Q _ => ∃ (a : Addr) (ns : List Int), vs = [.ref a] ∧ SqL K H a (ns.map V.int) ∧ ns.length ≤ 63 ∧ ∀ H', Q (.bl true) H'
def cell (ns : List Int) (k : Int) : Int := ns.getD k.toNat 0
theorem same_upd {H : Hp} {p : Addr} {o : HO} (h : H p = none) : Same H (upd H p o) := fun b x e => by
  rw [upd_ne (ne_of_none e h)]
  exact e
theorem cut_from (xs : List V) (k : Nat) : cutV xs (some (k : Int)) none = xs.drop k := by
  unfold cutV
  rw [HT.sIx_nat, HT.sIx_none]
  by_cases h : k ≤ xs.length
  · rw [Nat.min_eq_left h]
    exact List.take_of_length_le (by rw [List.length_drop]; omega)
  · rw [Nat.min_eq_right (by omega), List.drop_eq_nil_of_le (by omega), List.drop_eq_nil_of_le (by omega)]
    simp
theorem cut_to (xs : List V) (k : Nat) : cutV xs none (some (k : Int)) = xs.take k := by
  unfold cutV
  rw [HT.sIx_nat, HT.sIx_none, List.drop_zero, Nat.sub_zero]
  by_cases h : k ≤ xs.length
  · rw [Nat.min_eq_left h]
  · rw [Nat.min_eq_right (by omega), List.take_of_length_le (Nat.le_refl _), List.take_of_length_le (by omega)]
theorem cut_to' (xs : List V) (k : Int) (h : 0 ≤ k) : cutV xs none (some k) = xs.take k.toNat := by
  obtain ⟨m, rfl⟩ := Int.eq_ofNat_of_zero_le h
  exact cut_to xs m
theorem cut_from' (xs : List V) (k : Int) (h : 0 ≤ k) : cutV xs (some k) none = xs.drop k.toNat := by
  obtain ⟨m, rfl⟩ := Int.eq_ofNat_of_zero_le h
  exact cut_from xs m
theorem small_le {n : Nat} (h : n ≤ 1000) : n ≤ sizeLine := Nat.le_of_lt (small1000 h)
theorem int_of_map {ns : List Int} {i : Nat} {y : V} (hi : (ns.map V.int)[i]? = some y) : ∃ z, ns[i]? = some z ∧ y = V.int z := by
  rw [List.getElem?_map] at hi
  cases e : ns[i]? with
  | none => rw [e] at hi; cases hi
  | some u => rw [e] at hi; exact ⟨u, rfl, (Option.some.inj hi).symm⟩
theorem dp_ints {K : PySem.W.Frag} {H : Hp} : ∀ ns : List Int, DpAll K H (ns.map V.int) (ns.map PyData.int)
  | [] => .nil
  | n :: r => .cons (.int n) (dp_ints r)
theorem lay_ints : ∀ ns : List Int, PyData.canLayAll0 (ns.map PyData.int) = true ∧ PyData.depthAll (ns.map PyData.int) = 0
  | [] => ⟨by simp [PyData.canLayAll0], by simp [PyData.depthAll]⟩
  | n :: r => by
    have ih := lay_ints r
    exact ⟨by simp [PyData.canLayAll0, PyData.canLay0, ih.1], by simp [PyData.depthAll, PyData.depth, ih.2]⟩
theorem shaped_ints (ns : List Int) : SeqAt.shaped (.list (ns.map PyData.int)) = true := by
  have h := lay_ints ns
  unfold SeqAt.shaped
  simp [PyData.canLay0, PyData.depth, h.1, h.2]
theorem eqv_ints (ns : List Int) : PyData.eqv (.list (ns.map PyData.int)) (.list (ns.map PyData.int)) = true :=
  SeqAt.eqv_refl _ (by rw [PyData.canLay0]; exact (lay_ints ns).1)

def weight (c : Int) : Int := if c % 9 = 4 then c / 9 % 10 ^ 12 else c / 9 % 6
theorem sum_nn : ∀ {l : List Int}, (∀ x ∈ l, 0 ≤ x) → 0 ≤ l.sum
  | [], _ => Int.le_refl 0
  | x :: r, h => by
    have h1 := h x List.mem_cons_self
    have h2 := sum_nn fun y hy => h y (List.mem_cons_of_mem x hy)
    rw [List.sum_cons]
    omega
theorem sum_take_le {l : List Int} {k : Nat} (h : ∀ x ∈ l, 0 ≤ x) : (l.take k).sum ≤ l.sum := by
  have e : (l.take k).sum + (l.drop k).sum = l.sum := by rw [← List.sum_append, List.take_append_drop]
  have h2 := sum_nn fun x (hx : x ∈ l.drop k) => h x (List.mem_of_mem_drop hx)
  omega
theorem weight_nn (c : Int) : 0 ≤ weight c := by
  unfold weight
  split
  · exact Int.emod_nonneg _ (by decide)
  · exact Int.emod_nonneg _ (by decide)

structure Txt (K : PySem.W.Frag) (mg : Str → Option Value) where
  a_fall : Addr
  d_fall : FuncData
  F_fall : Fun K "fall" "fall" s_fall a_fall d_fall
  b_fall : Binds K d_fall ["weights", "n"] []
  m_fall : mg "fall" = some (.ref a_fall)
  a_law_cell : Addr
  d_law_cell : FuncData
  F_law_cell : Fun K "_law_cell" "_law_cell" s_law_cell a_law_cell d_law_cell
  b_law_cell : Binds K d_law_cell ["script", "k"] []
  m_law_cell : mg "_law_cell" = some (.ref a_law_cell)
  a_law_is_integer : Addr
  d_law_is_integer : FuncData
  F_law_is_integer : Fun K "_law_is_integer" "_law_is_integer" s_law_is_integer a_law_is_integer d_law_is_integer
  b_law_is_integer : Binds K d_law_is_integer ["actual"] []
  m_law_is_integer : mg "_law_is_integer" = some (.ref a_law_is_integer)
  a_law_weight : Addr
  d_law_weight : FuncData
  F_law_weight : Fun K "_law_weight" "_law_weight" s_law_weight a_law_weight d_law_weight
  b_law_weight : Binds K d_law_weight ["cell"] []
  m_law_weight : mg "_law_weight" = some (.ref a_law_weight)
  a_law : Addr
  d_law : FuncData
  F_law : Fun K "law" "law" s_law a_law d_law
  b_law : Binds K d_law ["script"] []
  m_law : mg "law" = some (.ref a_law)
  z_bool : mg "bool" = none
  z_int : mg "int" = none
  z_isinstance : mg "isinstance" = none
  z_len : mg "len" = none
  z_list : mg "list" = none
  z_max : mg "max" = none
  z_min : mg "min" = none
  z_sum : mg "sum" = none
section
variable {P : Program} {w : World} {K : PySem.W.Frag} {mg : Str → Option Value} {base : Heap}
/-! ### fall -/
def sp_fall (T : Txt K mg) : Sp := fun vs H Q _ => ∃ (a : Addr) (ws : List Int) (n : Int), vs = [.ref a, .int n] ∧ SqL K H a (ws.map V.int) ∧ (∀ x ∈ ws, 0 ≤ x) ∧ 0 ≤ n ∧ n < ws.sum ∧
  ∀ i : Nat, i < ws.length → (ws.take i).sum ≤ n → n < (ws.take i).sum + ws.getD i 0 → Q (.int i) H

theorem ok_fall (T : Txt K mg) : FnOk P w K mg base CX0 1 T.a_fall T.d_fall ["weights", "n"] (sp_fall T) := by
  refine T.F_fall.ok sc_fall (fun vs H Q E h => ?_) (fun cdv A outer s H vs Q E hr h => ?_)
  · obtain ⟨a, ws, n, rfl, _⟩ := h
    rfl
  obtain ⟨a, ws, n, rfl, hS, hp, h0, hn, q⟩ := h
  refine ⟨_, (pss_cons (ps_set (i := 2) sc_fall.nd rfl (by first | exact Or.inl rfl | exact Or.inr rfl) pe_int)
      (pss_cons (ps_set (i := 3) sc_fall.nd rfl (by first | exact Or.inl rfl | exact Or.inr rfl) (pv 1))
      (pss_cons (ps_while PassesOwn.never (pt_cmpR op_ge (pv 3) (pe_ix ix_list (pv 0) (pv 2) (fun _ _ => rfl)) (nomark _)) (pss_cons (ps_aug (i := 3) sc_fall.nd rfl (by first | exact Or.inl rfl | exact Or.inr rfl) (pe_ix ix_list (pv 0) (pv 2) (fun _ _ => rfl)) ip_sub)
      (pss_one (ps_aug (i := 2) sc_fall.nd rfl (by first | exact Or.inl rfl | exact Or.inr rfl) pe_int ip_add))))
      (pss_one (ps_ret (pv 2)))))), ?_⟩
  refine ⟨_, rfl, ?_⟩
  refine ⟨fun m σ H' => ∃ i : Nat, σ = [some (.ref a), some (.int n), some (.int i), some (.int (n - (ws.take i).sum))] ∧ m = ws.length - i ∧ i < ws.length ∧ (ws.take i).sum ≤ n ∧ H' = H, ⟨_, 0, ?_, rfl, ?_, ?_, rfl⟩, ?_⟩
  · show [some (V.ref a), some (.int n), some (.int ((0 : Nat) : Int)), some (.int n)] = _
    simp
  · cases ws with
    | nil => simp at hn; omega
    | cons x r => simp
  · simpa using h0
  rintro m σ H0 ⟨i, rfl, rfl, hi, hle, rfl⟩
  have gi : ws[i]? = some ws[i] := List.getElem?_eq_getElem hi
  refine ⟨_, rfl, _, rfl, _, rfl, a, _, (i : Int), .int ws[i], rfl, rfl, hS, atI_nat (by rw [List.getElem?_map, gi]; rfl), _, _, rfl, rfl, _, rfl, ite2 (fun c => ?_) (fun c => ?_)⟩
  · have c' : ws[i] ≤ n - (ws.take i).sum := of_decide_eq_true c
    have st := sum_take gi
    have hi1 : i + 1 < ws.length := by
      refine Classical.byContradiction fun z => ?_
      have e : i + 1 = ws.length := by omega
      rw [e, List.take_of_length_le (Nat.le_refl _)] at st
      omega
    refine ⟨fun σ' H' => σ' = [some (.ref a), some (.int n), some (.int ((i + 1 : Nat) : Int)), some (.int (n - (ws.take (i + 1)).sum))] ∧ H' = H0, fun σ' H' hN => ⟨ws.length - (i + 1), by omega, i + 1, hN.1, rfl, hi1, by omega, hN.2⟩, ?_⟩
    refine ⟨_, rfl, _, rfl, _, rfl, a, _, (i : Int), .int ws[i], rfl, rfl, hS, atI_nat (by rw [List.getElem?_map, gi]; rfl), _, _, rfl, rfl, _, rfl, _, _, rfl, rfl, ?_, rfl⟩
    rw [st]
    have e1 : n - (ws.take i).sum - ws[i] = n - ((ws.take i).sum + ws[i]) := by omega
    show [some (V.ref a), some (.int n), some (.int ((i : Int) + 1)), some (.int (n - (ws.take i).sum - ws[i]))] = _
    rw [e1]
    rfl
  · have c' : ¬ ws[i] ≤ n - (ws.take i).sum := fun z => c (decide_eq_true z)
    refine ⟨_, rfl, q i hi hle ?_⟩
    rw [List.getD_eq_getElem?_getD, gi]
    show n < (ws.take i).sum + ws[i]
    omega
/-! ### _law_cell -/
def sp_law_cell (T : Txt K mg) : Sp := fun vs H Q _ => ∃ (a : Addr) (ns : List Int) (k : Int), vs = [.ref a, .int k] ∧ SqL K H a (ns.map V.int) ∧ 0 ≤ k ∧ Q (.int (cell ns k)) H

theorem ok_law_cell (T : Txt K mg) : FnOk P w K mg base CX0 1 T.a_law_cell T.d_law_cell ["script", "k"] (sp_law_cell T) := by
  refine T.F_law_cell.ok sc_law_cell (fun vs H Q E h => ?_) (fun cdv A outer s H vs Q E hr h => ?_)
  · obtain ⟨a, ns, k, rfl, _⟩ := h
    rfl
  obtain ⟨a, ns, k, rfl, hS, hk, q⟩ := h
  refine ⟨_, (pss_cons (ps_if (pt_cmpR op_lt (pv 1) (pe_callB call_len_seq (by rfl) T.z_len (by first | exact PySem.boot_len | decide +kernel) (pa_cons (pv 0) pa_nil)) (nomark _)) (pss_one (ps_ret (pe_ix ix_list (pv 0) (pv 1) (fun _ _ => rfl)))) pss_nil)
      (pss_one (ps_ret pe_int))), ?_⟩
  refine ⟨_, rfl, _, rfl, a, _, rfl, .inl hS, _, _, rfl, rfl, _, rfl, ite2 (fun c => ?_) (fun c => ?_)⟩
  · have c' : k < (((ns.map V.int).length : Nat) : Int) := of_decide_eq_true c
    rw [List.length_map] at c'
    have hlt : k.toNat < ns.length := by omega
    refine ⟨_, rfl, _, rfl, a, _, k, .int (cell ns k), rfl, rfl, hS, at_of (j := k.toNat) (by omega) ?_, q⟩
    rw [List.getElem?_map, List.getElem?_eq_getElem hlt]
    unfold cell
    rw [List.getD_eq_getElem?_getD, List.getElem?_eq_getElem hlt]
    rfl
  · have c' : ¬ k < (((ns.map V.int).length : Nat) : Int) := fun z => c (decide_eq_true z)
    rw [List.length_map] at c'
    have e : cell ns k = 0 := by
      unfold cell
      rw [List.getD_eq_getElem?_getD, List.getElem?_eq_none (by omega)]
      rfl
    rw [e] at q
    exact q
/-! ### _law_is_integer -/
def sp_law_is_integer (T : Txt K mg) : Sp := fun vs H Q _ => ∃ (k : Int), vs = [.int k] ∧ Q (.bl true) H

theorem ok_law_is_integer (T : Txt K mg) : FnOk P w K mg base CX0 1 T.a_law_is_integer T.d_law_is_integer ["actual"] (sp_law_is_integer T) := by
  refine T.F_law_is_integer.ok sc_law_is_integer (fun vs H Q E h => ?_) (fun cdv A outer s H vs Q E hr h => ?_)
  · obtain ⟨k, rfl, _⟩ := h
    rfl
  obtain ⟨k, rfl, q⟩ := h
  refine ⟨_, (pss_one (ps_ret (pe_and (pe_callB call_isi (by rfl) T.z_isinstance (by first | exact PySem.boot_isinstance | decide +kernel) (pa_cons (pv 0) (pa_cons (pe_bltn (v := .ty "int") (by rfl) T.z_int (by decide +kernel) rfl) pa_nil))) (pe_one (pe_not (pe_callB call_isi (by rfl) T.z_isinstance (by first | exact PySem.boot_isinstance | decide +kernel) (pa_cons (pv 0) (pa_cons (pe_bltn (v := .ty "bool") (by rfl) T.z_bool (by decide +kernel) rfl) pa_nil)))))))), ?_⟩
  refine ⟨_, rfl, .int k, .ty "int", .type "int", .type "int", true, rfl, .ty _, .base (.int _), kit_ty (by decide +kernel), true, rfl, ?_⟩
  refine iteT ?_
  refine ⟨_, rfl, .int k, .ty "bool", .type "int", .type "bool", false, rfl, .ty _, .base (.int _), kit_ty (by decide +kernel), false, rfl, ?_⟩
  exact q
/-! ### _law_weight -/
def sp_law_weight (T : Txt K mg) : Sp := fun vs H Q _ => ∃ (c : Int), vs = [.int c] ∧ Q (.int (weight c)) H

theorem ok_law_weight (T : Txt K mg) : FnOk P w K mg base CX0 1 T.a_law_weight T.d_law_weight ["cell"] (sp_law_weight T) := by
  refine T.F_law_weight.ok sc_law_weight (fun vs H Q E h => ?_) (fun cdv A outer s H vs Q E hr h => ?_)
  · obtain ⟨c, rfl, _⟩ := h
    rfl
  obtain ⟨c, rfl, q⟩ := h
  refine ⟨_, (pss_cons (ps_if (pt_cmpR op_eq (pe_op op_mod (pe_callTy call_int1 (by rfl) T.z_int (by first | exact PySem.boot_int | decide +kernel) (pa_cons (pv 0) pa_nil)) pe_int) pe_int (nomark _)) (pss_one (ps_ret (pe_op op_mod (pe_op op_fdiv (pv 0) pe_int) (pe_op op_pow pe_int pe_int)))) pss_nil)
      (pss_one (ps_ret (pe_op op_mod (pe_op op_fdiv (pv 0) pe_int) pe_int)))), ?_⟩
  refine ⟨_, rfl, .inl ⟨_, rfl, _, _, rfl, rfl, by show (0 : Int) < 9; decide, rfl, _, rfl, ite2 (fun e => ?_) (fun e => ?_)⟩⟩
  · have e' : c % 9 = 4 := V.int.inj (of_decide_eq_true e)
    refine ⟨_, rfl, _, _, rfl, rfl, ⟨by decide, by decide⟩, _, _, rfl, rfl, ⟨by decide, by decide, by decide⟩, _, _, rfl, rfl, by show (0 : Int) < 10 ^ 12; decide, ?_⟩
    unfold weight at q
    rw [if_pos e'] at q
    exact q
  · have e' : ¬ c % 9 = 4 := fun z => e (decide_eq_true (congrArg V.int z))
    refine ⟨_, rfl, _, _, rfl, rfl, ⟨by decide, by decide⟩, _, _, rfl, rfl, by show (0 : Int) < 6; decide, ?_⟩
    unfold weight at q
    rw [if_neg e'] at q
    exact q
/-! ### law -/
def sp_law (T : Txt K mg) : Sp := spLaw K

theorem ok_law (T : Txt K mg) : FnOk P w K mg base CX0 2 T.a_law T.d_law ["script"] (sp_law T) := by
  refine T.F_law.ok sc_law (fun vs H Q E h => ?_) (fun cdv A outer s H vs Q E hr h => ?_)
  · obtain ⟨a, ns, rfl, _⟩ := h
    rfl
  obtain ⟨a, ns, rfl, hS, h63, q⟩ := h
  refine ⟨_, (pss_cons (ps_set (i := 1) sc_law.nd rfl (by first | exact Or.inl rfl | exact Or.inr rfl) (pe_op op_cat (pe_lc (own := [("cell", 7)]) (g := gName 7) (tt := tYes) rfl sc_law.nd (pi_list (pe_slice sl_list (pv 0) (po_some pe_int) po_none)) (blkOk_by (N := N_law) (sc := defScope s_law) (by decide +kernel)) (fun _ _ _ _ _ => (pg_name (i := 7) sc_law.nd rfl (by first | exact Or.inl rfl | exact Or.inr rfl))) (fun _ _ _ _ _ => pts_nil) (fun _ _ _ _ _ => (pe_call (ok_law_weight T) (hr.mono (by decide)) (by rfl) T.m_law_weight T.F_law_weight.kp T.b_law_weight .nil pass0 (pa_cons (pv 7) pa_nil)))) (pe_lst (pa_cons (pe_op op_add pe_int (pe_op op_mod (pe_callTy call_int1 (by rfl) T.z_int (by first | exact PySem.boot_int | decide +kernel) (pa_cons (pe_call (ok_law_cell T) (hr.mono (by decide)) (by rfl) T.m_law_cell T.F_law_cell.kp T.b_law_cell .nil pass0 (pa_cons (pv 0) (pa_cons pe_int pa_nil))) pa_nil)) pe_int)) pa_nil))))
      (pss_cons (ps_set (i := 1) sc_law.nd rfl (by first | exact Or.inl rfl | exact Or.inr rfl) (pe_op op_cat (pv 1) (pe_op op_rep (pe_lst (pa_cons pe_int pa_nil)) (pe_op op_mod (pe_op op_fdiv (pe_call (ok_law_cell T) (hr.mono (by decide)) (by rfl) T.m_law_cell T.F_law_cell.kp T.b_law_cell .nil pass0 (pa_cons (pv 0) (pa_cons pe_int pa_nil))) pe_int) pe_int))))
      (pss_cons (ps_set (i := 2) sc_law.nd rfl (by first | exact Or.inl rfl | exact Or.inr rfl) (pe_callTy call_list_of (by rfl) T.z_list (by first | exact PySem.boot_list | decide +kernel) (pa_cons (pv 1) pa_nil)))
      (pss_cons (ps_set (i := 3) sc_law.nd rfl (by first | exact Or.inl rfl | exact Or.inr rfl) (pe_callB (cr_sum rfl) (by rfl) T.z_sum (by first | exact PySem.boot_sum | decide +kernel) (pa_cons (pv 1) pa_nil)))
      (pss_cons (ps_set (i := 4) sc_law.nd rfl (by first | exact Or.inl rfl | exact Or.inr rfl) (pe_op op_mod (pe_op op_fdiv (pe_call (ok_law_cell T) (hr.mono (by decide)) (by rfl) T.m_law_cell T.F_law_cell.kp T.b_law_cell .nil pass0 (pa_cons (pv 0) (pa_cons pe_int pa_nil))) pe_int) (pe_callB call_len_seq (by rfl) T.z_len (by first | exact PySem.boot_len | decide +kernel) (pa_cons (pv 1) pa_nil))))
      (pss_cons (ps_set (i := 5) sc_law.nd rfl (by first | exact Or.inl rfl | exact Or.inr rfl) (pe_op op_mod (pe_op op_fdiv (pe_call (ok_law_cell T) (hr.mono (by decide)) (by rfl) T.m_law_cell T.F_law_cell.kp T.b_law_cell .nil pass0 (pa_cons (pv 0) (pa_cons pe_int pa_nil))) pe_int) (pv 3)))
      (C8.pss_cut (ps_if (pt_cmpR op_eq (pe_op op_mod (pe_callTy call_int1 (by rfl) T.z_int (by first | exact PySem.boot_int | decide +kernel) (pa_cons (pe_call (ok_law_cell T) (hr.mono (by decide)) (by rfl) T.m_law_cell T.F_law_cell.kp T.b_law_cell .nil pass0 (pa_cons (pv 0) (pa_cons pe_int pa_nil))) pa_nil)) pe_int) pe_int (nomark _)) (pss_one (ps_set (i := 5) sc_law.nd rfl (by first | exact Or.inl rfl | exact Or.inr rfl) (pe_callB (call_min2 rfl) (by rfl) T.z_min (by first | exact PySem.boot_min | decide +kernel) (pa_cons (pe_op op_sub (pv 3) pe_int) (pa_cons (pe_callB (cr_sum rfl) (by rfl) T.z_sum (by first | exact PySem.boot_sum | decide +kernel) (pa_cons (pe_slice sl_list (pv 1) po_none (po_some (pv 4))) pa_nil)) pa_nil))))) pss_nil)
      (C8.pss_cut (ps_if (pt_cmpR op_eq (pe_op op_mod (pe_callTy call_int1 (by rfl) T.z_int (by first | exact PySem.boot_int | decide +kernel) (pa_cons (pe_call (ok_law_cell T) (hr.mono (by decide)) (by rfl) T.m_law_cell T.F_law_cell.kp T.b_law_cell .nil pass0 (pa_cons (pv 0) (pa_cons pe_int pa_nil))) pa_nil)) pe_int) pe_int (nomark _)) (pss_one (ps_set (i := 5) sc_law.nd rfl (by first | exact Or.inl rfl | exact Or.inr rfl) (pe_callB (call_max2 rfl) (by rfl) T.z_max (by first | exact PySem.boot_max | decide +kernel) (pa_cons pe_int (pa_cons (pe_op op_sub (pe_callB (cr_sum rfl) (by rfl) T.z_sum (by first | exact PySem.boot_sum | decide +kernel) (pa_cons (pe_slice sl_list (pv 1) po_none (po_some (pv 4))) pa_nil)) pe_int) pa_nil))))) pss_nil)
      (pss_cons (ps_set (i := 6) sc_law.nd rfl (by first | exact Or.inl rfl | exact Or.inr rfl) (pe_call (ok_fall T) (hr.mono (by decide)) (by rfl) T.m_fall T.F_fall.kp T.b_fall .nil pass0 (pa_cons (pv 1) (pa_cons (pv 5) pa_nil))))
      (pss_cons (ps_if (PW.pt (pw_or (pt_not (pt_truth (pe_call (ok_law_is_integer T) (hr.mono (by decide)) (by rfl) T.m_law_is_integer T.F_law_is_integer.kp T.b_law_is_integer .nil pass0 (pa_cons (pv 6) pa_nil)) (fun _ => rfl))) (pw_or (pt_not (pt_chain op_le op_lt pe_int (pv 6) (pe_callB call_len_seq (by rfl) T.z_len (by first | exact PySem.boot_len | decide +kernel) (pa_cons (pv 2) pa_nil)))) (pw_or1 (pt_cmpR (op_neD hr.units) (pv 1) (pv 2) (nomark _)))))) (pss_one (ps_ret pe_bl)) pss_nil)
      (pss_one (ps_ret (pe_chain op_le op_lt (pe_callB (cr_sum rfl) (by rfl) T.z_sum (by first | exact PySem.boot_sum | decide +kernel) (pa_cons (pe_slice sl_list (pv 2) po_none (po_some (pv 6))) pa_nil)) (pv 5) (pe_op op_add (pe_callB (cr_sum rfl) (by rfl) T.z_sum (by first | exact PySem.boot_sum | decide +kernel) (pa_cons (pe_slice sl_list (pv 2) po_none (po_some (pv 6))) pa_nil)) (pe_ix ix_list (pv 2) (pv 6) (fun _ _ => rfl)))))))))))))))), ?_⟩
  refine ⟨.ref a, rfl, 2, rfl, a, _, rfl, hS, fun p hp => ?_⟩
  rw [cut_from' (ns.map V.int) 2 (by decide)]
  generalize eH1 : upd H p _ = H1
  have s1 : Same H H1 := eH1 ▸ same_upd hp
  have e1 : H1 p = some (.lst ((ns.drop 2).map V.int)) := by
    rw [List.map_drop]
    exact eH1 ▸ upd_same
  clear eH1
  -- the weights of the cells
  refine ⟨p, rfl, ⟨_, SqL.of e1⟩, fun D hD => ?_⟩
  refine lc_list (a := p) (xs := (ns.drop 2).map V.int) (fun i H' => Same H1 H' ∧ H' D = some (.lst ((((ns.drop 2).take i).map weight).map V.int))) ⟨same_upd hD, upd_same⟩ (fun i H' _ h => h.1.seq (SqL.of e1)) (fun i x H' hx h => ?_) (fun H2 h => ?_)
  · obtain ⟨z, hz, rfl⟩ := int_of_map hx
    refine ⟨rfl, ?_⟩
    refine ⟨_, rfl, z, rfl, _, h.2, ?_, fun b o e => ?_, ?_⟩
    · rw [List.length_map, List.length_map, List.length_take, List.length_drop]
      exact small1000 (by omega)
    · rw [upd_ne (ne_of_none e hD)]
      exact h.1 b o e
    · rw [upd_same, List.take_add_one, hz, List.map_append, List.map_append]
      rfl
  · obtain ⟨s2, e2⟩ := h
    rw [List.length_map, List.take_length] at e2
    have S2 := s1.trans s2
    -- the last weight, made of the first cell
    refine ⟨_, rfl, a, ns, 0, rfl, S2.seq hS, by decide, .inl ⟨_, rfl, _, _, rfl, rfl, by show (0 : Int) < 3; decide, _, _, rfl, rfl, by show 1 ≤ sizeLine; decide, fun l hl => ?_⟩⟩
    generalize eH3 : upd H2 l _ = H3
    have s3 : Same H2 H3 := eH3 ▸ same_upd hl
    have e3 : H3 l = some (.lst [.int (1 + cell ns 0 % 3)]) := eH3 ▸ upd_same
    clear eH3
    have hlen : (((ns.drop 2).map weight).map V.int).length ≤ 63 := by
      rw [List.length_map, List.length_map, List.length_drop]
      omega
    refine ⟨D, l, _, _, rfl, rfl, s3 _ _ e2, e3, by show _ + 1 ≤ sizeLine; exact small_le (by omega), fun m hm => ?_⟩
    generalize eH4 : upd H3 m _ = H4
    have s4 : Same H3 H4 := eH4 ▸ same_upd hm
    have e4 : H4 m = some (.lst (((ns.drop 2).map weight ++ [1 + cell ns 0 % 3]).map V.int)) := by
      rw [List.map_append]
      exact eH4 ▸ upd_same
    clear eH4
    have S4 := S2.trans (s3.trans s4)
    -- zeros behind them
    refine ⟨_, rfl, by show 1 ≤ sizeLine; decide, fun z hz => ?_⟩
    generalize eH5 : upd H4 z _ = H5
    have s5 : Same H4 H5 := eH5 ▸ same_upd hz
    have e5 : H5 z = some (.lst [.int 0]) := eH5 ▸ upd_same
    clear eH5
    have hr0 : 0 ≤ cell ns 0 / 3 % 4 := Int.emod_nonneg _ (by decide)
    have hr4 : cell ns 0 / 3 % 4 < 4 := Int.emod_lt_of_pos _ (by decide)
    refine ⟨_, rfl, a, ns, 0, rfl, (S4.trans s5).seq hS, by decide, _, _, rfl, rfl, ⟨by decide, by decide⟩, _, _, rfl, rfl, by show (0 : Int) < 4; decide, z, _, _, rfl, rfl, e5, by omega, by omega, by show 1 * _ ≤ sizeLine; exact small_le (by omega), fun y hy => ?_⟩
    generalize eH6 : upd H5 y _ = H6
    have s6 : Same H5 H6 := eH6 ▸ same_upd hy
    have e6 : H6 y = some (.lst ((List.replicate (cell ns 0 / 3 % 4).toNat (0 : Int)).map V.int)) := by
      have q6 : H6 y = some (.lst (List.replicate (cell ns 0 / 3 % 4).toNat [V.int 0]).flatten) := eH6 ▸ upd_same
      rw [q6, List.map_replicate]
      congr 2
      generalize (cell ns 0 / 3 % 4).toNat = k
      induction k with
      | zero => rfl
      | succ k ih => rw [List.replicate_succ, List.flatten_cons, ih, List.replicate_succ]; rfl
    clear eH6
    refine ⟨m, y, _, _, rfl, rfl, s6 _ _ (s5 _ _ e4), e6, ?_, fun u hu => ?_⟩
    · rw [List.length_map, List.length_map, List.length_append, List.length_replicate, List.length_map, List.length_drop]
      exact small_le (by show _ + 1 + _ ≤ 1000; omega)
    generalize eH7 : upd H6 u _ = H7
    have s7 : Same H6 H7 := eH7 ▸ same_upd hu
    obtain ⟨ws, ews, hpos, hsum, hwl⟩ : ∃ ws : List Int, ws = (ns.drop 2).map weight ++ [1 + cell ns 0 % 3] ++ List.replicate (cell ns 0 / 3 % 4).toNat (0 : Int) ∧ (∀ x ∈ ws, 0 ≤ x) ∧ 0 < ws.sum ∧ ws.length ≤ 70 := by
      have h3 : 0 ≤ cell ns 0 % 3 := Int.emod_nonneg _ (by decide)
      refine ⟨_, rfl, fun x hx => ?_, ?_, ?_⟩
      · rcases List.mem_append.mp hx with hx | hx
        · rcases List.mem_append.mp hx with hx | hx
          · obtain ⟨c, _, rfl⟩ := List.mem_map.mp hx
            exact weight_nn c
          · rw [List.mem_singleton.mp hx]
            omega
        · rw [(List.mem_replicate.mp hx).2]
          exact Int.le_refl 0
      · have h1 : 0 ≤ ((ns.drop 2).map weight).sum := sum_nn (fun x hx => by
          obtain ⟨c, _, rfl⟩ := List.mem_map.mp hx
          exact weight_nn c)
        have h2 : 0 ≤ (List.replicate (cell ns 0 / 3 % 4).toNat (0 : Int)).sum := sum_nn (fun x hx => by
          rw [(List.mem_replicate.mp hx).2]
          exact Int.le_refl 0)
        rw [List.sum_append, List.sum_append]
        show 0 < ((ns.drop 2).map weight).sum + ((1 + cell ns 0 % 3) + 0) + _
        omega
      · rw [List.length_append, List.length_append, List.length_map, List.length_drop, List.length_replicate]
        show _ + 1 + _ ≤ 70
        omega
    have e7 : H7 u = some (.lst (ws.map V.int)) := by
      rw [ews, List.map_append]
      exact eH7 ▸ upd_same
    clear eH7
    have S7 := S4.trans (s5.trans (s6.trans s7))
    clear ews
    -- kept = list(weights)
    refine ⟨_, rfl, u, _, rfl, .inl (SqL.of e7), fun v hv => ?_⟩
    generalize eH8 : upd H7 v _ = H8
    have s8 : Same H7 H8 := eH8 ▸ same_upd hv
    have e8 : H8 v = some (.lst (ws.map V.int)) := eH8 ▸ upd_same
    clear eH8
    have e78 := s8 _ _ e7
    have hA : SqL K H8 a (ns.map V.int) := (S7.trans s8).seq hS
    clear s1 s2 s3 s4 s5 s6 s7 S2 S4 e1 e2 e3 e4 e5 e6
    have hlw : (ws.length : Int) ≤ 70 := by omega
    have hl0 : 0 < ws.length := by
      cases ws with
      | nil => simp at hsum
      | cons x r => simp
    -- whole, place, number
    refine ⟨_, rfl, u, ws, rfl, SqL.of e78, ?_⟩
    refine ⟨_, rfl, a, ns, 1, rfl, hA, by decide, _, _, rfl, rfl, ⟨by decide, by decide⟩, _, rfl, u, _, rfl, .inl (SqL.of e78), _, _, rfl, rfl, by show (0 : Int) < ((ws.map V.int).length : Nat); rw [List.length_map]; omega, ?_⟩
    refine ⟨_, rfl, a, ns, 1, rfl, hA, by decide, _, _, rfl, rfl, ⟨by decide, by decide⟩, _, rfl, _, _, rfl, rfl, hsum, ?_⟩
    have hpl : 0 ≤ cell ns 1 / 3 % (((ws.map V.int).length : Nat) : Int) := Int.emod_nonneg _ (by rw [List.length_map]; omega)
    obtain ⟨pl, epl⟩ : ∃ pl, pl = cell ns 1 / 3 % (((ws.map V.int).length : Nat) : Int) := ⟨_, rfl⟩
    rw [← epl] at hpl
    have hn0 : 0 ≤ cell ns 1 / 3 % ws.sum := Int.emod_nonneg _ (by omega)
    have hn1 : cell ns 1 / 3 % ws.sum < ws.sum := Int.emod_lt_of_pos _ hsum
    have cutS : cutV (ws.map V.int) none (some pl) = (ws.take pl.toNat).map V.int := by rw [cut_to' _ _ hpl, List.map_take]
    have hsn : 0 ≤ (ws.take pl.toNat).sum := sum_nn fun x hx => hpos x (List.mem_of_mem_take hx)
    -- the two turns of the number
    let Mid : L2.St → Hp → Prop := fun σ' H' => ∃ n, σ' = [some (.ref a), some (.ref u), some (.ref v), some (.int ws.sum), some (.int pl), some (.int n), none, none] ∧ 0 ≤ n ∧ n < ws.sum ∧ Same H8 H'
    refine ⟨Mid, ?_, ?_⟩
    · refine ⟨_, rfl, a, ns, 1, rfl, hA, by decide, .inl ⟨_, rfl, _, _, rfl, rfl, by show (0 : Int) < 3; decide, rfl, _, rfl, ite2 (fun c => ?_) (fun c => ?_)⟩⟩
      · refine ⟨_, rfl, _, _, rfl, rfl, _, rfl, .int pl, by rw [epl]; rfl, pl, rfl, u, _, rfl, SqL.of e78, fun x hx => ?_⟩
        rw [cutS]
        refine ⟨x, _, rfl, SqL.of upd_same, _, _, rfl, _, by rw [epl]; rfl, ?_, ?_, same_upd hx⟩
        · rw [epl] at hsn
          split <;> omega
        · split <;> omega
      · exact ⟨_, by rw [epl]; rfl, hn0, hn1, Same.refl _⟩
    rintro σ9 H9 ⟨n9, rfl, h90, h91, s9⟩
    refine ⟨Mid, ?_, ?_⟩
    · refine ⟨_, rfl, a, ns, 1, rfl, s9.seq hA, by decide, .inl ⟨_, rfl, _, _, rfl, rfl, by show (0 : Int) < 3; decide, rfl, _, rfl, ite2 (fun c => ?_) (fun c => ?_)⟩⟩
      · refine ⟨_, rfl, .int pl, rfl, pl, rfl, u, _, rfl, SqL.of (s9 _ _ e78), fun x hx => ?_⟩
        rw [cutS]
        refine ⟨x, _, rfl, SqL.of upd_same, _, _, rfl, rfl, _, _, rfl, _, rfl, ?_, ?_, s9.trans (same_upd hx)⟩
        · split <;> omega
        · have := sum_take_le (k := pl.toNat) hpos
          split <;> omega
      · exact ⟨_, rfl, h90, h91, s9⟩
    rintro σT HT ⟨n, rfl, h0, h1, sT⟩
    have eu := sT _ _ e78
    have ev := sT _ _ e8
    -- actual = fall(weights, number)
    refine ⟨_, rfl, _, rfl, u, ws, n, rfl, SqL.of eu, hpos, h0, h1, fun i hi hle hlt => ?_⟩
    have hi2 : (i : Int) < (ws.length : Int) := by omega
    have wi : ws[i]? = some ws[i] := List.getElem?_eq_getElem hi
    have gi : ws.getD i 0 = ws[i] := by rw [List.getD_eq_getElem?_getD, wi]; rfl
    have cutI : cutV (ws.map V.int) none (some (i : Int)) = (ws.take i).map V.int := by rw [cut_to, List.map_take]
    refine ⟨_, rfl, _, rfl, true, rfl, ?_⟩
    refine ⟨_, rfl, _, _, rfl, rfl, _, rfl, ite2 (fun _ => ?_) (fun z => absurd (decide_eq_true (by omega)) z)⟩
    refine ⟨_, rfl, v, _, rfl, .inl (SqL.of ev), _, _, rfl, rfl, _, rfl, ?_⟩
    rw [List.length_map, decide_eq_true hi2]
    refine ⟨_, rfl, _, rfl, .list (ws.map PyData.int), .list (ws.map PyData.int), .lst (SqL.of eu) (dp_ints ws), .lst (SqL.of ev) (dp_ints ws), shaped_ints ws, shaped_ints ws, _, rfl, ?_⟩
    rw [eqv_ints]
    refine ⟨_, rfl, _, rfl, (i : Int), rfl, v, _, rfl, SqL.of ev, fun x hx => ?_⟩
    rw [cutI]
    refine ⟨x, ws.take i, rfl, SqL.of upd_same, _, rfl, _, _, rfl, rfl, _, rfl, ite2 (fun _ => ?_) (fun z => absurd (decide_eq_true hle) z)⟩
    have sx : Same HT (upd HT x (.lst ((ws.take i).map V.int))) := same_upd hx
    refine ⟨_, rfl, _, rfl, (i : Int), rfl, v, _, rfl, SqL.of (sx _ _ ev), fun x2 hx2 => ?_⟩
    rw [cutI]
    have sx2 := sx.trans (same_upd (o := .lst ((ws.take i).map V.int)) hx2)
    refine ⟨x2, ws.take i, rfl, SqL.of upd_same, _, rfl, _, rfl, v, _, (i : Int), .int ws[i], rfl, rfl, SqL.of (sx2 _ _ ev), atI_nat (by rw [List.getElem?_map, wi]; rfl), _, _, rfl, rfl, _, _, rfl, rfl, ?_⟩
    rw [gi] at hlt
    show Q (.bl (decide (n < (ws.take i).sum + ws[i]))) _
    rw [decide_eq_true hlt]
    exact q _
end
/-! ### what the top has written -/
theorem all_mk {l : PySem.W.OpenLaw} {w : World} {K : PySem.W.Frag} {h : Heap} {mg : Str → Option Value} {fa : Addr} (X : K.In h) (G : h.Ns mainGlobals mg) (hfa : mg "law" = some (.ref fa))
    {f1 : Addr} {od1 an1 : Option Addr} {sl1 : Array (Option Value)} {oc1 kV1 dc1 pm1 cd1 ct1 : Value}
    {f2 : Addr} {od2 an2 : Option Addr} {sl2 : Array (Option Value)} {oc2 kV2 dc2 pm2 cd2 ct2 : Value}
    {f3 : Addr} {od3 an3 : Option Addr} {sl3 : Array (Option Value)} {oc3 kV3 dc3 pm3 cd3 ct3 : Value}
    {f4 : Addr} {od4 an4 : Option Addr} {sl4 : Array (Option Value)} {oc4 kV4 dc4 pm4 cd4 ct4 : Value}
    {f5 : Addr} {od5 an5 : Option Addr} {sl5 : Array (Option Value)} {oc5 kV5 dc5 pm5 cd5 ct5 : Value}
    (a1 : PySem.W.nsIn K mainGlobals "fall" = some (some (.ref f1)))
    (l1 : K.lookup f1 = some ⟨oc1, od1, .func (PySem.W.fnOf "fall" "fall" (defArgs s_fall) (defBody s_fall) (defScope s_fall) .none kV1 dc1 pm1 an1 cd1 ct1), sl1⟩)
    (c1 : PySem.W.codeIn K cd1 "fall" = true)
    (k1 : PySem.W.keepIn K (.ref f1) = true)
    (a2 : PySem.W.nsIn K mainGlobals "_law_cell" = some (some (.ref f2)))
    (l2 : K.lookup f2 = some ⟨oc2, od2, .func (PySem.W.fnOf "_law_cell" "_law_cell" (defArgs s_law_cell) (defBody s_law_cell) (defScope s_law_cell) .none kV2 dc2 pm2 an2 cd2 ct2), sl2⟩)
    (c2 : PySem.W.codeIn K cd2 "_law_cell" = true)
    (k2 : PySem.W.keepIn K (.ref f2) = true)
    (a3 : PySem.W.nsIn K mainGlobals "_law_is_integer" = some (some (.ref f3)))
    (l3 : K.lookup f3 = some ⟨oc3, od3, .func (PySem.W.fnOf "_law_is_integer" "_law_is_integer" (defArgs s_law_is_integer) (defBody s_law_is_integer) (defScope s_law_is_integer) .none kV3 dc3 pm3 an3 cd3 ct3), sl3⟩)
    (c3 : PySem.W.codeIn K cd3 "_law_is_integer" = true)
    (k3 : PySem.W.keepIn K (.ref f3) = true)
    (a4 : PySem.W.nsIn K mainGlobals "_law_weight" = some (some (.ref f4)))
    (l4 : K.lookup f4 = some ⟨oc4, od4, .func (PySem.W.fnOf "_law_weight" "_law_weight" (defArgs s_law_weight) (defBody s_law_weight) (defScope s_law_weight) .none kV4 dc4 pm4 an4 cd4 ct4), sl4⟩)
    (c4 : PySem.W.codeIn K cd4 "_law_weight" = true)
    (k4 : PySem.W.keepIn K (.ref f4) = true)
    (a5 : PySem.W.nsIn K mainGlobals "law" = some (some (.ref f5)))
    (l5 : K.lookup f5 = some ⟨oc5, od5, .func (PySem.W.fnOf "law" "law" (defArgs s_law) (defBody s_law) (defScope s_law) .none kV5 dc5 pm5 an5 cd5 ct5), sl5⟩)
    (c5 : PySem.W.codeIn K cd5 "law" = true)
    (k5 : PySem.W.keepIn K (.ref f5) = true)
    (z_bool : PySem.W.nsIn K mainGlobals "bool" = some none)
    (z_int : PySem.W.nsIn K mainGlobals "int" = some none)
    (z_isinstance : PySem.W.nsIn K mainGlobals "isinstance" = some none)
    (z_len : PySem.W.nsIn K mainGlobals "len" = some none)
    (z_list : PySem.W.nsIn K mainGlobals "list" = some none)
    (z_max : PySem.W.nsIn K mainGlobals "max" = some none)
    (z_min : PySem.W.nsIn K mainGlobals "min" = some none)
    (z_sum : PySem.W.nsIn K mainGlobals "sum" = some none) :
    ∃ fd : FuncData, (∀ (s : Shared) (v : Value), BindsTo s fd ⟨[v], []⟩ [("script", v)]) ∧ ∀ base : Heap, K.In base → base.Ns mainGlobals mg → FnOk l.prog w K mg base CX0 2 fa fd ["script"] (spLaw K) := by
  have e := hfa.symm.trans (PySem.W.mg_of X G a5)
  cases e
  let T : Txt K mg := { a_fall := f1, d_fall := _, F_fall := fun_mk (st := s_fall) l1 c1 k1, b_fall := (fun_mk (st := s_fall) l1 c1 k1).binds (ps := ["weights", "n"]) (fun _ _ _ _ _ _ us hl => match us, hl with | [_, _], _ => rfl), m_fall := PySem.W.mg_of X G a1, a_law_cell := f2, d_law_cell := _, F_law_cell := fun_mk (st := s_law_cell) l2 c2 k2, b_law_cell := (fun_mk (st := s_law_cell) l2 c2 k2).binds (ps := ["script", "k"]) (fun _ _ _ _ _ _ us hl => match us, hl with | [_, _], _ => rfl), m_law_cell := PySem.W.mg_of X G a2, a_law_is_integer := f3, d_law_is_integer := _, F_law_is_integer := fun_mk (st := s_law_is_integer) l3 c3 k3, b_law_is_integer := (fun_mk (st := s_law_is_integer) l3 c3 k3).binds (ps := ["actual"]) (fun _ _ _ _ _ _ us hl => match us, hl with | [_], _ => rfl), m_law_is_integer := PySem.W.mg_of X G a3, a_law_weight := f4, d_law_weight := _, F_law_weight := fun_mk (st := s_law_weight) l4 c4 k4, b_law_weight := (fun_mk (st := s_law_weight) l4 c4 k4).binds (ps := ["cell"]) (fun _ _ _ _ _ _ us hl => match us, hl with | [_], _ => rfl), m_law_weight := PySem.W.mg_of X G a4, a_law := fa, d_law := _, F_law := fun_mk (st := s_law) l5 c5 k5, b_law := (fun_mk (st := s_law) l5 c5 k5).binds (ps := ["script"]) (fun _ _ _ _ _ _ us hl => match us, hl with | [_], _ => rfl), m_law := PySem.W.mg_of X G a5, z_bool := PySem.W.mg_none_of X G z_bool, z_int := PySem.W.mg_none_of X G z_int, z_isinstance := PySem.W.mg_none_of X G z_isinstance, z_len := PySem.W.mg_none_of X G z_len, z_list := PySem.W.mg_none_of X G z_list, z_max := PySem.W.mg_none_of X G z_max, z_min := PySem.W.mg_none_of X G z_min, z_sum := PySem.W.mg_none_of X G z_sum }
  exact ⟨T.d_law, fun s v => .of_eq rfl, fun base _ _ => ok_law T⟩
end Own
open PySem PySem.W PyProof.Rows
set_option maxHeartbeats 0 in
theorem PySem.Challenge.cw_sureplay_k07_what_a_number_falls_on_holds : PySem.Challenge.rw_sureplay_k07_what_a_number_falls_on.Holds := by
  w_on; o_law; k_head; (case hw => w_witness2)
  k_fill
  refine L2.walk_of (l := PySem.Challenge.rw_sureplay_k07_what_a_number_falls_on) (n := 63) (k := 2) (x := "script") (CX := fun _ => L2.CX0) (sp := fun w => Own.spLaw _) rfl (by decide) rfl ⟨rfl, by decide, by decide⟩ (fun w h Y => PySem.W.kIn_of Y) ?F (fun _ _ a ns hl _ hS => ⟨a, ns, rfl, hS, hl, fun _ => rfl⟩) (fun _ _ _ _ _ h => h)
  case F =>
    intro w mg fa h KX G hmg
    refine' Own.all_mk KX G hmg ?a1 ?l1 ?c1 ?k1 ?a2 ?l2 ?c2 ?k2 ?a3 ?l3 ?c3 ?k3 ?a4 ?l4 ?c4 ?k4 ?a5 ?l5 ?c5 ?k5 ?z_bool ?z_int ?z_isinstance ?z_len ?z_list ?z_max ?z_min ?z_sum
    (case a1 => k_is)
    (case l1 => k_is)
    (case c1 => k_is)
    (case k1 => k_is)
    (case a2 => k_is)
    (case l2 => k_is)
    (case c2 => k_is)
    (case k2 => k_is)
    (case a3 => k_is)
    (case l3 => k_is)
    (case c3 => k_is)
    (case k3 => k_is)
    (case a4 => k_is)
    (case l4 => k_is)
    (case c4 => k_is)
    (case k4 => k_is)
    (case a5 => k_is)
    (case l5 => k_is)
    (case c5 => k_is)
    (case k5 => k_is)
    (case z_bool => k_is)
    (case z_int => k_is)
    (case z_isinstance => k_is)
    (case z_len => k_is)
    (case z_list => k_is)
    (case z_max => k_is)
    (case z_min => k_is)
    (case z_sum => k_is)
#print axioms PySem.Challenge.cw_sureplay_k07_what_a_number_falls_on_holds
