/- The document's net: all messages of a link. No statement is proved here. -/
import Derived.Test.YtacjdeppigdbjaaRNet2
import Derived.Test.YtacjdeppigdbjaaOrder10Walk
namespace Go.Proofs.Ytacjdeppigdbjaa
open Go.RowKit
set_option linter.unusedVariables false
set_option linter.unusedSimpArgs false

def isS (l : Lk) (s : Sn) : Bool := s.net == l.a && (s.m.fr == l.b && s.m.to == l.d)
def msgsTo (l : Lk) (xs : List Sn) : Nat → List Msg
  | 0 => []
  | k + 1 => msgsTo l xs k ++ (match xs[k]? with | some s => if isS l s then [s.m] else [] | none => [])
def numsTo (l : Lk) (xs : List Sn) : Nat → List Int
  | 0 => []
  | k + 1 => numsTo l xs k ++ (match xs[k]? with | some s => if isS l s then [(k : Int)] else [] | none => [])
theorem msgsTo_yes {l : Lk} {xs : List Sn} {k : Nat} {s : Sn} (h : xs[k]? = some s) (hs : isS l s = true) : msgsTo l xs (k + 1) = msgsTo l xs k ++ [s.m] ∧ numsTo l xs (k + 1) = numsTo l xs k ++ [(k : Int)] := by
  simp [msgsTo, numsTo, h, hs]
theorem msgsTo_no {l : Lk} {xs : List Sn} {k : Nat} {s : Sn} (h : xs[k]? = some s) (hs : isS l s = false) : msgsTo l xs (k + 1) = msgsTo l xs k ∧ numsTo l xs (k + 1) = numsTo l xs k := by
  simp [msgsTo, numsTo, h, hs]
theorem msgsTo_zero (l : Lk) (xs : List Sn) : msgsTo l xs 0 = [] ∧ numsTo l xs 0 = [] := ⟨rfl, rfl⟩
theorem msgsTo_len (l : Lk) (xs : List Sn) (k : Nat) : (msgsTo l xs k).length ≤ k ∧ (numsTo l xs k).length ≤ k := by
  induction k with
  | zero => simp [msgsTo, numsTo]
  | succ k ih =>
    cases h : xs[k]? with
    | none => simp [msgsTo, numsTo, h]; omega
    | some s => by_cases q : isS l s = true <;> simp [msgsTo, numsTo, h, q] <;> omega
theorem sn_msg {W : World} {b : Nat} {s : Sn} (h : At W b 89 s.arr) : W.rangeAt b 1 s.m.cs := fun j v hv => by
  rw [h.cell, Nat.add_comm]
  simpa [Sn.arr, Sn.cs] using hv
theorem Sn.at0 (s : Sn) : s.arr[0]? = some (.int .i64 s.net) := by simp [Sn.arr, Sn.cs]
theorem Sn.at2_ (s : Sn) : s.arr[2]? = some (.int .i64 s.m.fr) := by simp [Sn.arr, Sn.cs, Msg.cs]
theorem Sn.at3 (s : Sn) : s.arr[3]? = some (.int .i64 s.m.to) := by simp [Sn.arr, Sn.cs, Msg.cs]
theorem Sn.arr_one (s : Sn) : s.arr.all (·.oneCell') = true := all_oneCell_toArray s.cs_one
section
variable {ops : Array Oper} {rest : List Oper} {o : Oper} {a : Act} {W : World} {Q : Exit → Act → World → Prop}
theorem wpList_load89 {b off : Nat} {s : Sn} (hr : W.rangeAt b off s.cs) (x : Operand) (ho : o.op = .load 89 x) (hw : Region.wanted o (yielded ops a.tmps) = true) (hx : a.eval x = .pointer (some ⟨b, off, none⟩))
    (k : wpList Try.prog ops Q rest (a.put o.dst (.agg s.arr)) W) : wpList Try.prog ops Q (o :: rest) a W := by
  have := run_loadVar_mid (P := Try.prog) W b off 89 s.cs _ hr Try.underlying89 rfl (by rw [s.cs_length]; exact sz89)
  unfold wpList
  rw [if_pos hw]
  refine .inl ?_
  unfold Oper.wp execOp
  simp only [ho, hx, Instr.loadAt, Instr.sureAddr, Sem.run_bind, Sem.run_pure, Result.andThen_ok, this]
  exact k
end
theorem swap7 {w W : World} {x y z : Nat × Obj} {P6 N7 T : Blks} (h : St w W (x :: (P6 ++ ([y, z] ++ (N7 ++ T))))) : St w W (N7 ++ (x :: (P6 ++ (y :: z :: T)))) := h.perm (by
  have p1 : ([y, z] ++ (N7 ++ T)).Perm (N7 ++ ([y, z] ++ T)) := List.perm_append_comm_assoc _ _ _
  refine (List.Perm.cons x ((p1.append_left P6).trans (List.perm_append_comm_assoc P6 N7 _))).trans ?_
  exact (List.perm_middle (l₁ := N7)).symm)
theorem back7 {w W : World} {x y z : Nat × Obj} {P6 P7 T : Blks} (h : St w W (P7 ++ (x :: (P6 ++ (y :: z :: T))))) : St w W (P6 ++ (P7 ++ T)) := by
  have h1 := h.sub (M := P7 ++ (P6 ++ T)) (((((List.sublist_cons_self z T).trans (List.sublist_cons_self y _)).append_left P6).trans (List.sublist_cons_self x _)).append_left P7)
  exact h1.perm (List.perm_append_comm_assoc P7 P6 T)
def AlRel (w : World) (l : Lk) (xs : List Sn) (T : Blks) (v6 v7 i : Value) (wr : World) : Prop :=
  ∃ (k : Nat) (M6 M7 : Blks), k ≤ xs.length ∧ i = .int .i64 (k : Nat) ∧ RL v6 (msgsTo l xs k) M6 ∧ RL v7 (numsTo l xs k) M7 ∧ St w wr (M6 ++ (M7 ++ T))
attribute [local irreducible] Msg.arr bufM marr Sn.arr isS msgsTo numsTo
set_option maxRecDepth 20000 in
set_option maxHeartbeats 4000000 in
theorem rall_any {w W : World} {g n R : Nat} {xs : List Sn} {L : Blks} (h : RN w W g n R xs L) (l : Lk) (hlen : xs.length ≤ 1000) :
    Calls Try.prog 29 #[.pointer (some ⟨g, 0, none⟩), .agg #[.int .i64 l.a, .int .i64 l.b, .int .i64 l.d]] W fun e W' => ∃ v6 v7 M6 M7, e = .returned (.tuple #[v6, v7]) ∧ RL v6 (msgsTo l xs xs.length) M6 ∧ RL v7 (numsTo l xs xs.length) M7 ∧ RN w W' g n R xs (M6 ++ (M7 ++ L)) := by
  obtain ⟨a1, a2, v, M, hrl, hs⟩ := h
  obtain ⟨A, c, rfl, _⟩ := hrl.form
  have fin : ∀ (W' : World) (M6 M7 : Blks) (b3 : Nat) o3, St w W' (M6 ++ (M7 ++ ((b3, o3) :: (M ++ ((g, C 68 #[.int .i64 (n : Int), .int .i64 (R : Int), .slice A xs.length c]) :: L))))) → RN w W' g n R xs (M6 ++ (M7 ++ L)) := fun W' M6 M7 b3 o3 h' => by
    refine ⟨a1, a2, _, M, hrl, (h'.sub (M := M6 ++ (M7 ++ (M ++ ((g, C 68 #[.int .i64 (n : Int), .int .i64 (R : Int), .slice A xs.length c]) :: L)))) ?_).perm ?_⟩
    · exact ((List.sublist_cons_self _ _).append_left M7).append_left M6
    · have p1 : (M6 ++ (M7 ++ (M ++ ((g, C 68 #[.int .i64 (n : Int), .int .i64 (R : Int), .slice A xs.length c]) :: L)))).Perm ((g, C 68 #[.int .i64 (n : Int), .int .i64 (R : Int), .slice A xs.length c]) :: (M6 ++ (M7 ++ (M ++ L)))) := by
        refine (((List.perm_middle (l₁ := M)).append_left M7).append_left M6).trans ?_
        refine ((List.perm_middle (l₁ := M7)).append_left M6).trans ?_
        exact List.perm_middle
      refine p1.trans (List.Perm.cons _ ?_)
      refine ((List.perm_append_comm_assoc M7 M L).append_left M6).trans ?_
      exact List.perm_append_comm_assoc M6 M (M7 ++ L)
  replace fin := Lib.hid fin
  have RW := Lib.hid (fun (W' : World) (M6 M7 : Blks) x (h' : St w W' (M6 ++ (M7 ++ (x :: (M ++ ((g, C 68 #[.int .i64 (n : Int), .int .i64 (R : Int), .slice A xs.length c]) :: L)))))) => hrl.row (h'.sub ((((List.sublist_cons_self x _).trans (List.sublist_append_right M7 _)).trans (List.sublist_append_right M6 _)))) rfl)
  replace hs := hs.perm (List.perm_middle (l₁ := M)).symm
  generalize hT : M ++ ((g, C 68 #[.int .i64 (n : Int), .int .i64 (R : Int), .slice A xs.length c]) :: L) = T at *
  have hg : (g, C 68 #[.int .i64 (n : Int), .int .i64 (R : Int), .slice A xs.length c]) ∈ T := by rw [← hT]; simp
  have HG := Lib.hid hg
  replace hT := Lib.hid hT
  obtain ⟨nx, hnx⟩ : ∃ nx, xs.length = nx := ⟨_, rfl⟩
  rw [hnx] at hlen
  have CG := Lib.hid (fun (W' : World) (K : Blks) (h' : St w W' (K ++ T)) => (show W'.cell? ⟨g, 2, none⟩ = some (.slice A nx c) from by
    have hA : At W' g 68 #[.int .i64 (n : Int), .int .i64 (R : Int), .slice A xs.length c] := h'.at_ _ (List.mem_append_right K HG.out)
    rw [← hnx]
    exact hA.cell 2))
  replace hnx := Lib.hid hnx
  clear hrl a1 a2 hg
  go_enter Try.func29, Try.ntmps29
  go_wp2_with (first
    | (refine wpList_box_st hs 51 _ rfl rfl #[.int .i64 l.a, .int .i64 l.b, .int .i64 l.d] rfl ?_; clear hs; intro W1 h1 _ _; replace h1 := h1.front; generalize W.heap.size = b3 at *)
    | (have _ := h1; refine wpList_build0_st (α := Msg) h1 rfl rfl ?_; clear h1; intro W2 v6 M6 e6 r6 h2 _; clear e6)
    | (have _ := h2; refine wpList_build0_st (α := Int) h2 rfl rfl ?_; clear h2; intro W3 v7 M7 e7 r7 h3 _; clear e7))
  replace h3 := h3.perm (List.perm_append_comm_assoc M7 M6 _)
  go_loopw [6, 7, 8] (AlRel w l xs ((b3, C 51 #[.int .i64 l.a, .int .i64 l.b, .int .i64 l.d]) :: T)) (fun _ _ i _ => nx - (intOf i).toNat)
  case atStart => exact ⟨0, M6, M7, Nat.zero_le _, rfl, by rw [(msgsTo_zero l xs).1]; exact r6, by rw [(msgsTo_zero l xs).2]; exact r7, h3⟩
  case round =>
    obtain ⟨k, N6, N7, hk, rfl, s6, s7, h4⟩ := hrel
    rw [hnx.out] at hk
    clear h3 r6 r7
    have c2 := CG.out wr (N6 ++ (N7 ++ [(b3, C 51 #[.int .i64 l.a, .int .i64 l.b, .int .i64 l.d])])) (by simpa [List.append_assoc] using h4)
    by_cases hlt : k < nx
    · have g1 : ((k : Int) < (nx : Int)) = True := eq_true (by omega)
      have hk2 : k < xs.length := by rw [hnx.out]; exact hlt
      have hx : xs[k]? = some xs[k] := List.getElem?_eq_getElem hk2
      generalize xs[k] = s at *
      have hrow := RW.out wr N6 N7 _ h4
      obtain ⟨bs, os, hA⟩ := hrow.addr
      have hA2 := hA (by omega)
      subst hA2
      obtain ⟨hbs, r1⟩ := hrow.at2 k s hx
      replace r1 : wr.rangeAt bs (os + k * 39) s.cs := r1
      replace r1 := Lib.hid r1
      have ml := msgsTo_len l xs k
      have ML := Lib.hid (show (msgsTo l xs k).length + 1 ≤ 100000 ∧ (numsTo l xs k).length + 1 ≤ 100000 by omega)
      have hkn : k + 1 ≤ xs.length := hk2
      replace hx := Lib.hid hx
      clear hrow hbs hk2 hA ml
      by_cases q0 : s.net = l.a
      · have g0 : (s.net == l.a) = true := by simp [q0]
        by_cases q1 : s.m.fr = l.b
        · have g2 : (s.m.fr == l.b) = true := by simp [q1]
          by_cases q2 : s.m.to = l.d
          · have g3 : (s.m.to == l.d) = true := by simp [q2]
            have E := Lib.hid (show isS l s = true by unfold isS; rw [g0, g2, g3]; rfl)
            replace q0 := Lib.hid q0
            replace q1 := Lib.hid q1
            replace q2 := Lib.hid q2
            go_wp2_with (first
              | (have _ := h4; refine wpList_load89 (s := s) (b := bs) (off := os + k * 39) r1.out (.tmp 26) rfl rfl rfl ?_)
              | (have _ := h4; refine wpList_alloc_st h4 89 rfl rfl _ zsn.arr zero89 rfl ?_; clear h4 c2; intro X1 h5 _ _; replace h5 := h5.front; generalize wr.heap.size = b9 at *)
              | (have _ := h5; refine wpList_store_st (arr' := s.arr) h5 0 rfl 89 (.tmp 9) (.tmp 27) rfl rfl rfl rfl (by rw [Sn.arr_size]; exact sz89) (by simp only [Sn.arr_size]) (Sn.arr_one _) ?_; clear h5; intro X2 h6 _; replace h6 : St w X2 ((b9, C 89 s.arr) :: (N6 ++ (N7 ++ ((b3, C 51 #[.int .i64 l.a, .int .i64 l.b, .int .i64 l.d]) :: T)))) := h6; have e0 := h6.cell 0 rfl 0 (.int .i64 s.net) s.at0; have e2 := h6.cell 0 rfl 2 (.int .i64 s.m.fr) s.at2_; have e3 := h6.cell 0 rfl 3 (.int .i64 s.m.to) s.at3; have hB : At X2 b3 51 #[.int .i64 l.a, .int .i64 l.b, .int .i64 l.d] := h6.at_ (b3, C 51 #[.int .i64 l.a, .int .i64 l.b, .int .i64 l.d]) (by simp); have f0 := hB.cell 0; have f1 := hB.cell 1; have f2 := hB.cell 2; simp only [List.getElem?_toArray, List.getElem?_cons_zero, List.getElem?_cons_succ] at f0 f1 f2; clear hB)
              | (have _ := h6; refine wpList_loadM (off := 1) (sn_msg (h6.get 0 rfl)) (.tmp 50) rfl rfl rfl ?_)
              | (have _ := h6; refine wpList_build1_st (α := Msg) h6 (.tmp 51) s.m rfl rfl (msg_cells s.m) ?_; clear h6 e0 e2 e3 f0 f1 f2; intro X3 h7; generalize X2.heap.size = b52 at *)
              | (have _ := h7; refine wpList_append_rl (ys := [s.m]) s6 (St.swap (X := [_, _]) h7) (new_row h7) (.tmp 49) (.tmp 52) rfl rfl rfl rfl ML.out.1 ?_; clear h7 s6; intro v6' X4 P6 s6 h8)
              | (have _ := h8; refine wpList_build1_st (α := Int) h8 (.tmp 55) (k : Int) rfl rfl rfl ?_; clear h8; intro X5 h9; generalize X4.heap.size = b56 at *)
              | (have _ := h9; refine wpList_append_rl (ys := [(k : Int)]) s7 (swap7 h9) (new_row h9) (.tmp 54) (.tmp 56) rfl rfl rfl rfl ML.out.2 ?_; clear h9 s7; intro v7' X6 P7 s7 h10))
            go_roundw
            case rel => exact ⟨k + 1, P6, P7, by omega, by go_num, by rw [(msgsTo_yes hx.out E.out).1]; exact s6, by rw [(msgsTo_yes hx.out E.out).2]; exact s7, back7 h10⟩
            case measure => simp [intOf]; omega
          · have g3 : (s.m.to == l.d) = false := by simp [q2]
            have E := Lib.hid (show isS l s = false by unfold isS; rw [g0, g2, g3]; rfl)
            replace q0 := Lib.hid q0
            replace q1 := Lib.hid q1
            replace q2 := Lib.hid q2
            go_wp2_with (first
              | (have _ := h4; refine wpList_load89 (s := s) (b := bs) (off := os + k * 39) r1.out (.tmp 26) rfl rfl rfl ?_)
              | (have _ := h4; refine wpList_alloc_st h4 89 rfl rfl _ zsn.arr zero89 rfl ?_; clear h4 c2; intro X1 h5 _ _; replace h5 := h5.front; generalize wr.heap.size = b9 at *)
              | (have _ := h5; refine wpList_store_st (arr' := s.arr) h5 0 rfl 89 (.tmp 9) (.tmp 27) rfl rfl rfl rfl (by rw [Sn.arr_size]; exact sz89) (by simp only [Sn.arr_size]) (Sn.arr_one _) ?_; clear h5; intro X2 h6 _; replace h6 : St w X2 ((b9, C 89 s.arr) :: (N6 ++ (N7 ++ ((b3, C 51 #[.int .i64 l.a, .int .i64 l.b, .int .i64 l.d]) :: T)))) := h6; have e0 := h6.cell 0 rfl 0 (.int .i64 s.net) s.at0; have e2 := h6.cell 0 rfl 2 (.int .i64 s.m.fr) s.at2_; have e3 := h6.cell 0 rfl 3 (.int .i64 s.m.to) s.at3; have hB : At X2 b3 51 #[.int .i64 l.a, .int .i64 l.b, .int .i64 l.d] := h6.at_ (b3, C 51 #[.int .i64 l.a, .int .i64 l.b, .int .i64 l.d]) (by simp); have f0 := hB.cell 0; have f1 := hB.cell 1; have f2 := hB.cell 2; simp only [List.getElem?_toArray, List.getElem?_cons_zero, List.getElem?_cons_succ] at f0 f1 f2; clear hB))
            go_roundw
            case rel => exact ⟨k + 1, N6, N7, by omega, by go_num, by rw [(msgsTo_no hx.out E.out).1]; exact s6, by rw [(msgsTo_no hx.out E.out).2]; exact s7, h6.tail⟩
            case measure => simp [intOf]; omega
        · have g2 : (s.m.fr == l.b) = false := by simp [q1]
          have E := Lib.hid (show isS l s = false by unfold isS; rw [g0, g2]; rfl)
          replace q0 := Lib.hid q0
          replace q1 := Lib.hid q1
          go_wp2_with (first
            | (have _ := h4; refine wpList_load89 (s := s) (b := bs) (off := os + k * 39) r1.out (.tmp 26) rfl rfl rfl ?_)
            | (have _ := h4; refine wpList_alloc_st h4 89 rfl rfl _ zsn.arr zero89 rfl ?_; clear h4 c2; intro X1 h5 _ _; replace h5 := h5.front; generalize wr.heap.size = b9 at *)
            | (have _ := h5; refine wpList_store_st (arr' := s.arr) h5 0 rfl 89 (.tmp 9) (.tmp 27) rfl rfl rfl rfl (by rw [Sn.arr_size]; exact sz89) (by simp only [Sn.arr_size]) (Sn.arr_one _) ?_; clear h5; intro X2 h6 _; replace h6 : St w X2 ((b9, C 89 s.arr) :: (N6 ++ (N7 ++ ((b3, C 51 #[.int .i64 l.a, .int .i64 l.b, .int .i64 l.d]) :: T)))) := h6; have e0 := h6.cell 0 rfl 0 (.int .i64 s.net) s.at0; have e2 := h6.cell 0 rfl 2 (.int .i64 s.m.fr) s.at2_; have e3 := h6.cell 0 rfl 3 (.int .i64 s.m.to) s.at3; have hB : At X2 b3 51 #[.int .i64 l.a, .int .i64 l.b, .int .i64 l.d] := h6.at_ (b3, C 51 #[.int .i64 l.a, .int .i64 l.b, .int .i64 l.d]) (by simp); have f0 := hB.cell 0; have f1 := hB.cell 1; have f2 := hB.cell 2; simp only [List.getElem?_toArray, List.getElem?_cons_zero, List.getElem?_cons_succ] at f0 f1 f2; clear hB))
          go_roundw
          case rel => exact ⟨k + 1, N6, N7, by omega, by go_num, by rw [(msgsTo_no hx.out E.out).1]; exact s6, by rw [(msgsTo_no hx.out E.out).2]; exact s7, h6.tail⟩
          case measure => simp [intOf]; omega
      · have g0 : (s.net == l.a) = false := by simp [q0]
        have E := Lib.hid (show isS l s = false by unfold isS; rw [g0]; rfl)
        replace q0 := Lib.hid q0
        go_wp2_with (first
          | (have _ := h4; refine wpList_load89 (s := s) (b := bs) (off := os + k * 39) r1.out (.tmp 26) rfl rfl rfl ?_)
          | (have _ := h4; refine wpList_alloc_st h4 89 rfl rfl _ zsn.arr zero89 rfl ?_; clear h4 c2; intro X1 h5 _ _; replace h5 := h5.front; generalize wr.heap.size = b9 at *)
          | (have _ := h5; refine wpList_store_st (arr' := s.arr) h5 0 rfl 89 (.tmp 9) (.tmp 27) rfl rfl rfl rfl (by rw [Sn.arr_size]; exact sz89) (by simp only [Sn.arr_size]) (Sn.arr_one _) ?_; clear h5; intro X2 h6 _; replace h6 : St w X2 ((b9, C 89 s.arr) :: (N6 ++ (N7 ++ ((b3, C 51 #[.int .i64 l.a, .int .i64 l.b, .int .i64 l.d]) :: T)))) := h6; have e0 := h6.cell 0 rfl 0 (.int .i64 s.net) s.at0; have e2 := h6.cell 0 rfl 2 (.int .i64 s.m.fr) s.at2_; have e3 := h6.cell 0 rfl 3 (.int .i64 s.m.to) s.at3; have hB : At X2 b3 51 #[.int .i64 l.a, .int .i64 l.b, .int .i64 l.d] := h6.at_ (b3, C 51 #[.int .i64 l.a, .int .i64 l.b, .int .i64 l.d]) (by simp); have f0 := hB.cell 0; have f1 := hB.cell 1; have f2 := hB.cell 2; simp only [List.getElem?_toArray, List.getElem?_cons_zero, List.getElem?_cons_succ] at f0 f1 f2; clear hB))
        go_roundw
        case rel => exact ⟨k + 1, N6, N7, by omega, by go_num, by rw [(msgsTo_no hx.out E.out).1]; exact s6, by rw [(msgsTo_no hx.out E.out).2]; exact s7, h6.tail⟩
        case measure => simp [intOf]; omega
    · have g1 : ((k : Int) < (nx : Int)) = False := eq_false (by omega)
      obtain rfl : k = nx := by omega
      go_wp2
      go_ret2
      refine ⟨_, _, N6, N7, rfl, ?_, ?_, fin.out _ _ _ _ _ h4⟩
      · rw [hnx.out]; exact s6
      · rw [hnx.out]; exact s7
end Go.Proofs.Ytacjdeppigdbjaa
