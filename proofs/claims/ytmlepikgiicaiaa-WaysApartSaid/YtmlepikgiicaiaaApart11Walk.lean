/- The law of what is done with numbers of other sets. No statement is proved here. -/
import Derived.Test.YtmlepikgiicaiaaTwo
namespace Go.Proofs.Ytmlepikgiicaiaa
open Go.RowKit
set_option linter.unusedVariables false
set_option linter.unusedSimpArgs false

section
variable {w W W' : World} {n ga ba gb bb : Nat} {ca cb : Cs} {L : Blks} {x : Cl}
theorem w2_set (h : W2 w W n ga ba ca gb bb cb L) (inv : Inv n ca) (hk : x.k ≤ 9223372036854775807) (hn : n ≤ 64) (ho : x.o = 0) :
    Calls Try.prog 10 #[.pointer (some ⟨ga, 0, none⟩), .int .i64 x.k, .int .i64 x.v] W fun e W' => (∃ E, e = .returned (.int .i64 E)) ∧ W2 w W' n ga ba (opC n ca x) gb bb cb L := by
  obtain ⟨X, h1, up⟩ := h.step
  refine (set_any h1 x.k x.v hk hn (drop_len inv hn _)).mono ?_
  rintro e W' ⟨rfl, h2⟩
  have e : opC n ca x = setC n ca x.k x.v := by unfold opC; rw [if_pos ho]
  exact ⟨⟨_, rfl⟩, by rw [e]; exact up _ _ h2⟩
theorem w2_drop (h : W2 w W n ga ba ca gb bb cb L) (inv : Inv n ca) (hk : x.k ≤ 9223372036854775807) (hn : n ≤ 64) (ho : x.o = 1) :
    Calls Try.prog 12 #[.pointer (some ⟨ga, 0, none⟩), .int .i64 x.k] W fun e W' => (∃ E, e = .returned (.bool E)) ∧ W2 w W' n ga ba (opC n ca x) gb bb cb L := by
  obtain ⟨X, h1, up⟩ := h.step
  refine (drop_any h1 x.k hk).mono ?_
  rintro e W' ⟨rfl, h2⟩
  have e : opC n ca x = dropC ca x.k := by unfold opC; rw [if_neg (by omega), if_pos ho]
  exact ⟨⟨_, rfl⟩, by rw [e]; exact up _ _ h2⟩
theorem w2_touch (h : W2 w W n ga ba ca gb bb cb L) (inv : Inv n ca) (hk : x.k ≤ 9223372036854775807) (hn : n ≤ 64) (ho : x.o ≠ 0) (ho1 : x.o ≠ 1) :
    Calls Try.prog 14 #[.pointer (some ⟨ga, 0, none⟩), .int .i64 x.k] W fun e W' => (∃ E, e = .returned (.bool E)) ∧ W2 w W' n ga ba (opC n ca x) gb bb cb L := by
  obtain ⟨X, h1, up⟩ := h.step
  refine (touch_any h1 x.k hk hn (drop_len inv hn _)).mono ?_
  rintro e W' ⟨rfl, h2⟩
  have e : opC n ca x = touchC ca x.k := by unfold opC; rw [if_neg ho, if_neg ho1]
  exact ⟨⟨_, rfl⟩, by rw [e]; exact up _ _ h2⟩
theorem w2_get (h : W2 w W n ga ba ca gb bb cb L) (k : Int) (hk : k ≤ 9223372036854775807) :
    Calls Try.prog 16 #[.pointer (some ⟨ga, 0, none⟩), .int .i64 k] W fun e W' => e = .returned (.tuple #[.int .i64 (getV ca k), .bool (getO ca k)]) ∧ W2 w W' n ga ba ca gb bb cb L := by
  obtain ⟨X, h1, up⟩ := h.step
  refine (get_any h1 k hk).mono ?_
  rintro e W' ⟨rfl, hb⟩
  exact ⟨rfl, h.call hb⟩
theorem w2_room (h : W2 w W n ga ba ca gb bb cb L) (k : Int) (hk : k ≤ 9223372036854775807) (hn : n ≤ 64) :
    Calls Try.prog 23 #[.pointer (some ⟨ga, 0, none⟩), .int .i64 k] W fun e W' => e = .returned (.bool (room n ca k)) ∧ W2 w W' n ga ba ca gb bb cb L := by
  obtain ⟨X, h1, up⟩ := h.step
  refine (room_any h1 k hk hn).mono ?_
  rintro e W' ⟨rfl, hb⟩
  exact ⟨rfl, h.call hb⟩
theorem w2_oldest (h : W2 w W n ga ba ca gb bb cb L) (k : Int) (hk : k ≤ 9223372036854775807) (hl : (sof ca k).length ≤ 1000) :
    Calls Try.prog 19 #[.pointer (some ⟨ga, 0, none⟩), .int .i64 k] W fun e W' => ∃ bk, e = .returned (.slice (some ⟨bk, 0, none⟩) (sof ca k).length (sof ca k).length) ∧ W2 w W' n ga ba ca gb bb cb ((bk, C 3 (iarr (ks (sof ca k)))) :: L) := by
  obtain ⟨X, h1, up⟩ := h.stepN
  refine (oldest_any h1 k hk hl).mono ?_
  rintro e W' ⟨bk, rfl, h2⟩
  exact ⟨bk, rfl, up _ _ h2⟩
end
def ApRel (w : World) (N Sn ga ba gb bb bs : Nat) (s1 s2 key : Int) (n : Nat) (i : Value) (wr : World) : Prop :=
  ∃ (k : Nat) (ca cb : Cs), k ≤ n ∧ i = .int .i64 (k : Nat) ∧ (Inv N ca ∧ Inv N cb ∧ ca.length = Sn ∧ cb.length = Sn ∧ sof ca key = sof cb key) ∧ W2 w wr N ga ba ca gb bb cb [(bs, C 23 #[.int .i64 s1, .int .i64 s2])]
def InRel (w : World) (N ga ba gb bb bs bx br : Nat) (s1 s2 : Int) (x : Cl) (ca cb cB : Cs) (i : Value) (wr : World) : Prop :=
  ∃ (k : Nat) (cA cC : Cs), k ≤ 2 ∧ i = .int .i64 (k : Nat) ∧ ((k = 0 ∧ cA = ca ∧ cC = cb) ∨ (k = 1 ∧ cA = opC N ca x ∧ cC = cb) ∨ (k = 2 ∧ cA = opC N ca x ∧ cC = cB)) ∧ W2 w wr N ga ba cA gb bb cC [(br, C 26 #[.pointer (some ⟨ga, 0, none⟩), .pointer (some ⟨gb, 0, none⟩)]), (bx, C 31 x.arr), (bs, C 23 #[.int .i64 s1, .int .i64 s2])]
attribute [local irreducible] Cl.arr
set_option maxRecDepth 20000 in
set_option maxHeartbeats 8000000 in
theorem apart11_walk (s1 s2 : Int) (A : Option Addr) (n c : Nat) (list : List Cl) (key : Int) (w : World) (hkey : key ≤ 9223372036854775807) (hwf : ∀ x ∈ list, x.wf) (hr : ERow w w.heap.size A n c list) :
    Calls Try.prog 6 #[.agg #[.int .i64 s1, .int .i64 s2], .slice A n c, .int .i64 key] w fun e w' => e = .returned (.bool true) ∧ Below w.heap.size w w' := by
  have SK := Lib.hid (fun W => speaks_any W)
  have hl := hr.len
  have mx := hr.max
  have S0 := St.nil w
  by_cases h100 : 100 < n
  · have q : ((100 : Int) < (n : Int)) = True := eq_true (by omega)
    clear hr
    go_enter Try.func6, Try.ntmps6
    go_wp2_with (first
      | (refine wpList_box_st S0 23 _ rfl rfl #[.int .i64 s1, .int .i64 s2] rfl ?_; clear S0; intro W1 h1 _ _)
      | (have _ := h1; go_at_call 7; refine (SK.out _).mono ?_; rintro e W3 ⟨rfl, hb⟩; have h3 := h1.call hb; clear h1))
    go_ret
    exact ⟨rfl, h3.bel⟩
  have q : ((100 : Int) < (n : Int)) = False := eq_false (by omega)
  by_cases hneg : key < 0
  · have qn : (key < 0) = True := eq_true hneg
    clear hr
    go_enter Try.func6, Try.ntmps6
    go_wp2_with (first
      | (refine wpList_box_st S0 23 _ rfl rfl #[.int .i64 s1, .int .i64 s2] rfl ?_; clear S0; intro W1 h1 _ _)
      | (have _ := h1; go_at_call 7; refine (SK.out _).mono ?_; rintro e W3 ⟨rfl, hb⟩; have h3 := h1.call hb; clear h1))
    go_ret
    exact ⟨rfl, h3.bel⟩
  have qn : (key < 0) = False := eq_false hneg
  obtain ⟨ky, rfl⟩ : ∃ ky : Nat, key = (ky : Int) := ⟨key.toNat, by omega⟩
  have NW := Lib.hid (fun W L (h : St w W L) => new_any h s1 s2)
  have I0 := Lib.hid (Inv.new (fitN s2) (fitN s1) (fitN_le s1).1)
  have N64 := (fitN_le s2).2
  have LS := Lib.hid (show (List.replicate (fitN s1) ([] : List Ent)).length = fitN s1 by simp)
  have S1 := (fitN_le s1).1
  have S64 := (fitN_le s1).2
  have hmx : max (min s1 64) 1 = ((fitN s1 : Nat) : Int) := by unfold fitN; omega
  generalize List.replicate (fitN s1) [] = cz at *
  generalize fitN s2 = N at *
  generalize fitN s1 = Sn at *
  generalize hmn : min s1 64 = MN at *
  replace hmn := Lib.hid hmn
  replace hmx := Lib.hid hmx
  obtain ⟨b1, o1, hA⟩ := addr_of hr
  replace hA := Lib.hid hA
  have HR := Lib.hid hr
  have HW := Lib.hid hwf
  replace hl := Lib.hid hl
  clear hr hwf h100 hneg
  go_enter Try.func6, Try.ntmps6
  go_wp2_with (first
    | (refine wpList_box_st S0 23 _ rfl rfl #[.int .i64 s1, .int .i64 s2] rfl ?_; clear S0; intro W1 h1 _ _; replace h1 := h1.front; generalize w.heap.size = bs at h1 ⊢)
    | (have _ := h1; go_at_call 7; refine (SK.out _).mono ?_; rintro e W3 ⟨rfl, hb⟩; have h3 := h1.call hb; clear h1 hb SK; have e0 := h3.cell 0 rfl 0 (.int .i64 s1) rfl)
    | (have _ := h3; refine wpList_min _ s1 MN rfl rfl rfl hmn.out ?_)
    | (have _ := h3; refine wpList_max _ MN (Sn : Int) rfl rfl rfl hmx.out ?_))
  have HS0 := Lib.hid (show St w W3.drew [(bs, C 23 #[.int .i64 s1, .int .i64 s2])] from h3.drewN 1)
  have H0 := Lib.hid (show At W3.drew bs 23 #[.int .i64 s1, .int .i64 s2] from HS0.out.get 0 rfl)
  clear h3 e0
  refine wp_region_held_drew (S := fun W => At W bs 23 #[.int .i64 s1, .int .i64 s2]) (by kernel_rfl) H0.out (fun _ => ?_)
  generalize W3.drew = V0 at *
  refine wpAnyH_take (i := 0) (v := .agg #[.int .i64 s1, .int .i64 s2]) rfl (by kernel_rfl) (by kernel_rfl) (by kernel_rfl) (fun _ _ _ h => h) (yields_at 23 _ _ rfl (by rfl) rfl Try.underlying23 rfl sz23 (fun W hW => hW)) H0.out ?_
  try simp only [Act.put, List.getElem_toArray, List.getElem_cons_succ, List.getElem_cons_zero, List.setIfInBounds_toArray, List.set_cons_zero, List.set_cons_succ]
  refine wpAnyH_take (i := 2) (v := .agg #[.int .i64 s1, .int .i64 s2]) rfl (by kernel_rfl) (by kernel_rfl) (by kernel_rfl) (fun _ _ _ h => h) (yields_at 23 _ _ rfl (by rfl) rfl Try.underlying23 rfl sz23 (fun W hW => hW)) H0.out ?_
  try simp only [Act.put, List.getElem_toArray, List.getElem_cons_succ, List.getElem_cons_zero, List.setIfInBounds_toArray, List.set_cons_zero, List.set_cons_succ]
  refine wpAnyH_ready (rs := [1]) (by kernel_rfl) (by simp) ?_
  refine AllReadyH.cons rfl (fun K hK => ?_) AllReadyH.nil
  go_simp
  go_at_call 8
  refine (NW.out _ _ HS0.out).mono ?_
  rintro e V1 ⟨ga, ba, rfl, h⟩
  obtain ⟨Y, hsY, upY⟩ := W2.of h
  have H1_ := Lib.hid (show At V1 bs 23 #[.int .i64 s1, .int .i64 s2] from h.at2 0 rfl)
  have HSY := Lib.hid hsY
  have UPY := Lib.hid upY
  clear h hsY upY
  refine hK.out _ _ H1_.out (fun _ => ?_)
  clear hK K
  try simp only [Act.put, List.getElem_toArray, List.getElem_cons_succ, List.getElem_cons_zero, List.setIfInBounds_toArray, List.set_cons_zero, List.set_cons_succ]
  refine wpAnyH_ready (rs := [3]) (by kernel_rfl) (by simp) ?_
  refine AllReadyH.cons rfl (fun K hK => ?_) AllReadyH.nil
  go_simp
  go_at_call 8
  refine (NW.out _ _ HSY.out).mono ?_
  rintro e V2 ⟨gb, bb, rfl, h⟩
  have HW2 := Lib.hid (UPY.out _ _ _ _ h).swap
  have H2_ := Lib.hid (show At V2 bs 23 #[.int .i64 s1, .int .i64 s2] from HW2.out.at2 0 rfl)
  clear h UPY HSY
  refine hK.out _ _ H2_.out (fun _ => ?_)
  clear hK K
  try simp only [Act.put, List.getElem_toArray, List.getElem_cons_succ, List.getElem_cons_zero, List.setIfInBounds_toArray, List.set_cons_zero, List.set_cons_succ]
  refine wpAnyH_take (i := 4) (v := .pointer (some ⟨ga, 0, none⟩)) rfl (by kernel_rfl) (by kernel_rfl) (by kernel_rfl) (fun _ _ _ h => h) (Or.inl ⟨by rfl, fun W hW => by clear hW; go_simp⟩) H2_.out ?_
  try simp only [Act.put, List.getElem_toArray, List.getElem_cons_succ, List.getElem_cons_zero, List.setIfInBounds_toArray, List.set_cons_zero, List.set_cons_succ]
  refine wpAnyH_take (i := 5) (v := .pointer (some ⟨gb, 0, none⟩)) rfl (by kernel_rfl) (by kernel_rfl) (by kernel_rfl) (fun _ _ _ h => h) (Or.inl ⟨by rfl, fun W hW => by clear hW; go_simp⟩) H2_.out ?_
  try simp only [Act.put, List.getElem_toArray, List.getElem_cons_succ, List.getElem_cons_zero, List.setIfInBounds_toArray, List.set_cons_zero, List.set_cons_succ]
  refine wpAnyH_done (by kernel_rfl) ?_ _
  go_wp2
  have h4 := HW2.out
  clear HW2 H0 H1_ H2_ HS0 NW
  go_loopw [37] (ApRel w N Sn ga ba gb bb bs s1 s2 (ky : Int) n) (fun i _ => n - (intOf i).toNat)
  case atStart => exact ⟨0, cz, cz, by omega, rfl, ⟨I0.out, I0.out, LS.out, LS.out, rfl⟩, h4⟩
  case round =>
    obtain ⟨k, ca, cb, hk, rfl, inv, h6⟩ := hrel
    clear h4 I0 LS
    by_cases hlt : k < n
    · have g1 : ((k : Int) < (n : Int)) = True := eq_true (by omega)
      have hk2 : k < list.length := by have := hl.out; omega
      have hx : list[k]? = some list[k] := List.getElem?_eq_getElem hk2
      generalize list[k] = x at *
      have hA2 := hA.out (by omega)
      subst hA2
      obtain ⟨hb1, r1⟩ := at_cl HR.out k x hx
      have xk : x.k ≤ 9223372036854775807 := HW.out x (List.mem_of_getElem? hx)
      have r1' := Lib.hid (show wr.rangeAt b1 (o1 + k * 3) (Elt.cs x) from rangeAt_keep r1 (h6.bel.block _ hb1))
      have inva := Lib.hid inv.1
      have invb := Lib.hid inv.2.1
      obtain ⟨cB, hcB⟩ : ∃ cB, cB = if 0 ≤ x.k ∧ plc cb x.k = plc cb (ky : Int) then opC N cb x else cb := ⟨_, rfl⟩
      have FIN := Lib.hid (show Inv N (opC N ca x) ∧ Inv N cB ∧ (opC N ca x).length = Sn ∧ cB.length = Sn ∧ sof (opC N ca x) (ky : Int) = sof cB (ky : Int) from by
        obtain ⟨i1, i2, l1, l2, hs⟩ := inv
        have hll : ca.length = cb.length := by rw [l1, l2]
        by_cases hsame : 0 ≤ x.k ∧ plc cb x.k = plc cb (ky : Int)
        · rw [if_pos hsame] at hcB
          subst hcB
          exact ⟨i1.op x, i2.op x, by rw [opC_len, l1], by rw [opC_len, l2], op_same i1 i2 hll hs (by omega) x hsame.1 (by rw [plc_len hll, plc_len hll]; exact hsame.2)⟩
        · rw [if_neg hsame] at hcB
          subst hcB
          refine ⟨i1.op x, i2, by rw [opC_len, l1], l2, ?_⟩
          rw [op_other i1 (by omega) x ?_, hs]
          rcases Int.lt_or_le x.k 0 with h0 | h0
          · exact .inl h0
          · exact .inr fun e => hsame ⟨h0, by rw [← plc_len hll, ← plc_len hll, e]⟩)
      have PM := Lib.hid (show ∀ j : Nat, ((j : Int) % (Sn : Int)) = ((plc cb (j : Int) : Nat) : Int) from fun j => by
        unfold plc; rw [inv.2.2.2.1, Int.toNat_natCast, Int.natCast_emod])
      replace hcB := Lib.hid hcB
      clear inv r1 hx hk2 hb1
      go_wp2_with (first
        | (refine wpList_loadC (e := x) r1'.out _ rfl rfl rfl ?_)
        | (have _ := h6; refine wpList_alloc_w2 h6 31 rfl rfl _ _ zero31 rfl ?_; clear h6; intro X1 h7; generalize wr.heap.size = bx at *)
        | (have _ := h7; refine wpList_store_w2 (arr' := x.arr) h7 31 _ _ rfl rfl rfl rfl (by rw [cl_size]; exact sz31) (by rw [cl_size]; rfl) (cl_one x) ?_; clear h7; intro X2 h8)
        | (have _ := h8; refine wpList_ptrs_w2 h8 _ _ rfl rfl rfl rfl ?_; clear h8; intro X3 h9; generalize X2.heap.size = br at *))
      go_loopw [45] (InRel w N ga ba gb bb bs bx br s1 s2 x ca cb cB) (fun i _ => 2 - (intOf i).toNat)
      case atStart => exact ⟨0, ca, cb, by omega, rfl, .inl ⟨rfl, rfl, rfl⟩, h9⟩
      case round =>
        obtain ⟨i, cA, cC, hi, rfl, hcase, h10⟩ := hrel
        clear h9
        rcases hcase with ⟨rfl, rfl, rfl⟩ | ⟨rfl, rfl, rfl⟩ | ⟨rfl, rfl, rfl⟩
        · have h9 := h10
          clear h10
          have dr := h9.cell 0 rfl 0 (.pointer (some ⟨ga, 0, none⟩)) rfl
          have EQ := fun m => eqp_ne h9 m
          have d0 := h9.cell 1 rfl 0 (.int .i64 x.o) (cl_get0 x); have d1 := h9.cell 1 rfl 1 (.int .i64 x.k) (cl_get1 x); have d2 := h9.cell 1 rfl 2 (.int .i64 x.v) (cl_get2 x)
          by_cases ho : x.o = 0
          · have q3 : (x.o == 0) = true := by simpa using ho
            have q4 : (x.o = 0) = True := eq_true ho
            have OPx := Lib.hid (fun W L (h : W2 w W N ga ba cA gb bb cC L) => w2_set h inva.out xk N64 ho)
            go_wp2
            replace h9 := Lib.hid h9
            go_quiet (fail)
            replace h9 := h9.out.drewN nq
            replace d0 := h9.cell 1 rfl 0 (.int .i64 x.o) (cl_get0 x); replace d1 := h9.cell 1 rfl 1 (.int .i64 x.k) (cl_get1 x); replace d2 := h9.cell 1 rfl 2 (.int .i64 x.v) (cl_get2 x)
            go_wp2_with (have _ := h9; go_at_call 10; refine (OPx.out _ _ h9).mono ?_; clear h9 d0 d1 d2 dr; rintro e X3 ⟨⟨E, rfl⟩, h10⟩)
            replace h10 := h10
            go_roundw
            case rel => exact ⟨1, _, _, by omega, rfl, .inr (.inl ⟨rfl, rfl, rfl⟩), h10⟩
            case measure => simp [intOf]
          · by_cases ho1 : x.o = 1
            · have q3 : (x.o == 0) = false := by simpa using ho
              have q4 : (x.o = 0) = False := eq_false ho
              have q5 : (x.o == 1) = true := by simpa using ho1
              have q6 : (x.o = 1) = True := eq_true ho1
              have OPx := Lib.hid (fun W L (h : W2 w W N ga ba cA gb bb cC L) => w2_drop h inva.out xk N64 ho1)
              go_wp2
              replace h9 := Lib.hid h9
              go_quiet (fail)
              replace h9 := h9.out.drewN nq
              replace d0 := h9.cell 1 rfl 0 (.int .i64 x.o) (cl_get0 x); replace d1 := h9.cell 1 rfl 1 (.int .i64 x.k) (cl_get1 x); replace d2 := h9.cell 1 rfl 2 (.int .i64 x.v) (cl_get2 x)
              go_wp2_with (have _ := h9; go_at_call 12; refine (OPx.out _ _ h9).mono ?_; clear h9 d0 d1 d2 dr; rintro e X3 ⟨⟨E, rfl⟩, h10⟩)
              replace h10 := h10
              go_roundw
              case rel => exact ⟨1, _, _, by omega, rfl, .inr (.inl ⟨rfl, rfl, rfl⟩), h10⟩
              case measure => simp [intOf]
            · have q3 : (x.o == 0) = false := by simpa using ho
              have q4 : (x.o = 0) = False := eq_false ho
              have q5 : (x.o == 1) = false := by simpa using ho1
              have q6 : (x.o = 1) = False := eq_false ho1
              have OPx := Lib.hid (fun W L (h : W2 w W N ga ba cA gb bb cC L) => w2_touch h inva.out xk N64 ho ho1)
              go_wp2
              replace h9 := Lib.hid h9
              go_quiet (fail)
              replace h9 := h9.out.drewN nq
              replace d0 := h9.cell 1 rfl 0 (.int .i64 x.o) (cl_get0 x); replace d1 := h9.cell 1 rfl 1 (.int .i64 x.k) (cl_get1 x); replace d2 := h9.cell 1 rfl 2 (.int .i64 x.v) (cl_get2 x)
              go_wp2_with (have _ := h9; go_at_call 14; refine (OPx.out _ _ h9).mono ?_; clear h9 d0 d1 d2 dr; rintro e X3 ⟨⟨E, rfl⟩, h10⟩)
              replace h10 := h10
              go_roundw
              case rel => exact ⟨1, _, _, by omega, rfl, .inr (.inl ⟨rfl, rfl, rfl⟩), h10⟩
              case measure => simp [intOf]
        · have h9 := h10
          clear h10
          have dr := h9.cell 0 rfl 1 (.pointer (some ⟨gb, 0, none⟩)) rfl
          have EQ := fun W => eqp_same gb W
          have d0 := h9.cell 1 rfl 0 (.int .i64 x.o) (cl_get0 x); have d1 := h9.cell 1 rfl 1 (.int .i64 x.k) (cl_get1 x); have d2 := h9.cell 1 rfl 2 (.int .i64 x.v) (cl_get2 x)
          rcases Int.lt_or_le x.k 0 with h0 | h0
          · have q0 : (x.k < 0) = True := eq_true h0
            have q1 : decide (x.k < 0) = true := decide_eq_true h0
            have eB : cB = cC := by rw [hcB.out, if_neg (by omega)]
            go_wp2
            replace h9 := Lib.hid h9
            go_quiet (fail)
            go_wp2
            go_roundw
            case rel => exact ⟨2, _, _, by omega, rfl, .inr (.inr ⟨rfl, rfl, eB.symm⟩), h9.out.drewN nq⟩
            case measure => simp [intOf]
          · have q0 : (x.k < 0) = False := eq_false (by omega)
            have q1 : decide (x.k < 0) = false := decide_eq_false (by omega)
            obtain ⟨kx, hkx⟩ : ∃ kx : Nat, x.k = (kx : Int) := ⟨x.k.toNat, by omega⟩
            have kxm : kx ≤ 9223372036854775807 := by omega
            have kym : ky ≤ 9223372036854775807 := by omega
            have k0 : ((kx : Int) < 0) = False := eq_false (by omega)
            have k1 : decide ((kx : Int) < 0) = false := decide_eq_false (by omega)
            have pm1 := PM.out kx
            replace hkx := Lib.hid hkx
            have pm2 := PM.out ky
            have S0' : ((Sn : Int) = 0) = False := eq_false (by omega)
            by_cases hsame : plc cC x.k = plc cC (ky : Int)
            · have eB : cB = opC N cC x := by rw [hcB.out, if_pos ⟨h0, hsame⟩]
              rw [hkx.out] at hsame
              have q2 : (((kx : Int) % (Sn : Int)) != ((ky : Int) % (Sn : Int))) = false := by rw [pm1, pm2, hsame]; simp
              clear pm1 pm2 hsame
              by_cases ho : x.o = 0
              · have q3 : (x.o == 0) = true := by simpa using ho
                have q4 : (x.o = 0) = True := eq_true ho
                have OPx := Lib.hid (fun W L (h : W2 w W N ga ba (opC N ca x) gb bb cC L) => w2_set h.swap invb.out xk N64 ho)
                rw [hkx.out] at d1 OPx
                go_wp2
                replace h9 := Lib.hid h9
                go_quiet (fail)
                replace h9 := h9.out.drewN nq
                replace d0 := h9.cell 1 rfl 0 (.int .i64 x.o) (cl_get0 x); replace d1 := h9.cell 1 rfl 1 (.int .i64 x.k) (cl_get1 x); replace d2 := h9.cell 1 rfl 2 (.int .i64 x.v) (cl_get2 x)
                rw [hkx.out] at d1
                go_wp2_with (have _ := h9; go_at_call 10; refine (OPx.out _ _ h9).mono ?_; clear h9 d0 d1 d2 dr; rintro e X3 ⟨⟨E, rfl⟩, h10⟩)
                replace h10 := h10.swap
                go_roundw
                case rel => exact ⟨2, _, _, by omega, rfl, .inr (.inr ⟨rfl, rfl, eB.symm⟩), h10⟩
                case measure => simp [intOf]
              · by_cases ho1 : x.o = 1
                · have q3 : (x.o == 0) = false := by simpa using ho
                  have q4 : (x.o = 0) = False := eq_false ho
                  have q5 : (x.o == 1) = true := by simpa using ho1
                  have q6 : (x.o = 1) = True := eq_true ho1
                  have OPx := Lib.hid (fun W L (h : W2 w W N ga ba (opC N ca x) gb bb cC L) => w2_drop h.swap invb.out xk N64 ho1)
                  rw [hkx.out] at d1 OPx
                  go_wp2
                  replace h9 := Lib.hid h9
                  go_quiet (fail)
                  replace h9 := h9.out.drewN nq
                  replace d0 := h9.cell 1 rfl 0 (.int .i64 x.o) (cl_get0 x); replace d1 := h9.cell 1 rfl 1 (.int .i64 x.k) (cl_get1 x); replace d2 := h9.cell 1 rfl 2 (.int .i64 x.v) (cl_get2 x)
                  rw [hkx.out] at d1
                  go_wp2_with (have _ := h9; go_at_call 12; refine (OPx.out _ _ h9).mono ?_; clear h9 d0 d1 d2 dr; rintro e X3 ⟨⟨E, rfl⟩, h10⟩)
                  replace h10 := h10.swap
                  go_roundw
                  case rel => exact ⟨2, _, _, by omega, rfl, .inr (.inr ⟨rfl, rfl, eB.symm⟩), h10⟩
                  case measure => simp [intOf]
                · have q3 : (x.o == 0) = false := by simpa using ho
                  have q4 : (x.o = 0) = False := eq_false ho
                  have q5 : (x.o == 1) = false := by simpa using ho1
                  have q6 : (x.o = 1) = False := eq_false ho1
                  have OPx := Lib.hid (fun W L (h : W2 w W N ga ba (opC N ca x) gb bb cC L) => w2_touch h.swap invb.out xk N64 ho ho1)
                  rw [hkx.out] at d1 OPx
                  go_wp2
                  replace h9 := Lib.hid h9
                  go_quiet (fail)
                  replace h9 := h9.out.drewN nq
                  replace d0 := h9.cell 1 rfl 0 (.int .i64 x.o) (cl_get0 x); replace d1 := h9.cell 1 rfl 1 (.int .i64 x.k) (cl_get1 x); replace d2 := h9.cell 1 rfl 2 (.int .i64 x.v) (cl_get2 x)
                  rw [hkx.out] at d1
                  go_wp2_with (have _ := h9; go_at_call 14; refine (OPx.out _ _ h9).mono ?_; clear h9 d0 d1 d2 dr; rintro e X3 ⟨⟨E, rfl⟩, h10⟩)
                  replace h10 := h10.swap
                  go_roundw
                  case rel => exact ⟨2, _, _, by omega, rfl, .inr (.inr ⟨rfl, rfl, eB.symm⟩), h10⟩
                  case measure => simp [intOf]
            · have eB : cB = cC := by rw [hcB.out, if_neg (fun h => hsame h.2)]
              rw [hkx.out] at hsame
              have q2 : (((kx : Int) % (Sn : Int)) != ((ky : Int) % (Sn : Int))) = true := by rw [pm1, pm2]; simp; omega
              clear pm1 pm2 hsame
              rw [hkx.out] at d1
              go_wp2
              replace h9 := Lib.hid h9
              go_quiet (fail)
              go_wp2
              go_roundw
              case rel => exact ⟨2, _, _, by omega, rfl, .inr (.inr ⟨rfl, rfl, eB.symm⟩), h9.out.drewN nq⟩
              case measure => simp [intOf]
        · go_wp2
          go_roundw
          case rel => exact ⟨k + 1, _, _, by omega, by go_num, FIN.out, h10.tail.tail⟩
          case measure => simp [intOf]; omega
    · obtain rfl : k = n := by omega
      have g1 : ((k : Int) < (k : Int)) = False := eq_false (by omega)
      obtain ⟨i1, i2, l1, l2, hs⟩ := inv
      have bl := (i1.sof (ky : Int)).1
      have eo : getO ca (ky : Int) = getO cb (ky : Int) := by unfold getO; rw [hs]
      have ev : getV ca (ky : Int) = getV cb (ky : Int) := by unfold getV; rw [hs]
      have er : room N ca (ky : Int) = room N cb (ky : Int) := by unfold room; rw [hs, eo]
      have GA := Lib.hid (fun W (h : W2 w W N ga ba ca gb bb cb [(bs, C 23 #[.int .i64 s1, .int .i64 s2])]) => w2_get h (ky : Int) hkey)
      have GB := Lib.hid (fun W (h : W2 w W N ga ba ca gb bb cb [(bs, C 23 #[.int .i64 s1, .int .i64 s2])]) => w2_get h.swap (ky : Int) hkey)
      have OA := Lib.hid (fun W (h : W2 w W N ga ba ca gb bb cb [(bs, C 23 #[.int .i64 s1, .int .i64 s2])]) => w2_oldest h (ky : Int) hkey (by omega))
      have OB := Lib.hid (fun W L (h : W2 w W N ga ba ca gb bb cb L) => w2_oldest h.swap (ky : Int) hkey (by rw [← hs]; omega))
      have RA := Lib.hid (fun W L (h : W2 w W N ga ba ca gb bb cb L) => w2_room h (ky : Int) hkey N64)
      have RB := Lib.hid (fun W L (h : W2 w W N ga ba ca gb bb cb L) => w2_room h.swap (ky : Int) hkey N64)
      rw [eo, ev] at GA
      rw [er] at RA
      rw [hs] at OA
      have SM := Lib.hid (fun (V : World) ba bb (h1 : At V ba 3 (iarr (ks (sof cb (ky : Int))))) (h2 : At V bb 3 (iarr (ks (sof cb (ky : Int))))) => show Calls Try.prog 18 #[.slice (some ⟨ba, 0, none⟩) (sof cb (ky : Int)).length (sof cb (ky : Int)).length, .slice (some ⟨bb, 0, none⟩) (sof cb (ky : Int)).length (sof cb (ky : Int)).length] V fun e w' => e = .returned (.bool true) ∧ ∃ j, w' = V.drewN j from by
        have hm : (ks (sof cb (ky : Int))).length ≤ maxLen := by rw [ks_length, ← hs]; unfold maxLen; omega
        have a1 := at_irow h1 hm
        have a2 := at_irow h2 hm
        rw [ks_length] at a1 a2
        have := same_any _ _ _ _ _ _ _ _ _ _ V a1 a2
        rwa [decide_eq_true rfl] at this)
      generalize (sof cb (ky : Int)).length = LN at *
      generalize iarr (ks (sof cb (ky : Int))) = IA at *
      generalize getV cb (ky : Int) = GV at *
      generalize getO cb (ky : Int) = GO at *
      generalize room N cb (ky : Int) = RR at *
      have t1 : (GV == GV) = true := by simp
      have t2 : (GO == GO) = true := by simp
      have t3 : (RR == RR) = true := by simp
      clear eo ev er hs bl i1 i2 l1 l2
      go_wp2_with (first
        | (have _ := h6; go_at_call 16; refine (GA.out _ h6).mono ?_; clear h6; rintro e X1 ⟨rfl, h7⟩)
        | (have _ := h7; go_at_call 16; refine (GB.out _ h7).mono ?_; clear h7; rintro e X2 ⟨rfl, h8⟩; replace h8 := h8.swap)
        | (have _ := h8; go_at_call 19; refine (OA.out _ h8).mono ?_; clear h8; rintro e X3 ⟨ka, rfl, h9⟩)
        | (have _ := h9; go_at_call 19; refine (OB.out _ _ h9).mono ?_; clear h9; rintro e X4 ⟨kb, rfl, h10⟩; replace h10 := h10.swap)
        | (have _ := h10; go_at_call 18; refine (SM.out _ _ _ (h10.at2 1 rfl) (h10.at2 0 rfl)).mono ?_; rintro e X5 ⟨rfl, j, rfl⟩; have h11 := h10.drewN j; clear h10)
        | (have _ := h11; go_at_call 23; refine (RA.out _ _ h11).mono ?_; clear h11; rintro e X6 ⟨rfl, h12⟩)
        | (have _ := h12; go_at_call 23; refine (RB.out _ _ h12).mono ?_; clear h12; rintro e X7 ⟨rfl, h13⟩))
      go_ret
      exact ⟨rfl, h13.bel⟩
end Go.Proofs.Ytmlepikgiicaiaa
