/- The document's net: its Links. No statement is proved here. -/
import Derived.Test.YtacjdeppigdbjaaRNet7
namespace Go.Proofs.Ytacjdeppigdbjaa
open Go.RowKit
set_option linter.unusedVariables false
set_option linter.unusedSimpArgs false
/-- What each link holds, by its number. -/
def rcn (n : Nat) (xs : List Sn) : Nat → List Msg := fun i => msgsTo (unl n i) xs xs.length
theorem unl_idx {n a b d : Nat} (hb : b < n) (hd : d < n) : unl n ((a * n + b) * n + d) = ⟨(a : Int), (b : Int), (d : Int)⟩ := by
  have hn : 0 < n := by omega
  have h1 : ((a * n + b) * n + d) / n = a * n + b := by
    rw [Nat.mul_comm, Nat.mul_add_div hn, Nat.div_eq_of_lt hd, Nat.add_zero]
  have h2 : ((a * n + b) * n + d) % n = d := by
    rw [Nat.mul_comm, Nat.mul_add_mod, Nat.mod_eq_of_lt hd]
  have h3 : (a * n + b) / n = a := by
    rw [Nat.mul_comm, Nat.mul_add_div hn, Nat.div_eq_of_lt hb, Nat.add_zero]
  have h4 : (a * n + b) % n = b := by
    rw [Nat.mul_comm, Nat.mul_add_mod, Nat.mod_eq_of_lt hb]
  unfold unl
  rw [h1, h2, h3, h4]
section
variable {ops : Array Oper} {rest : List Oper} {o : Oper} {a : Act} {w W : World} {Q : Exit → Act → World → Prop} {L M : Blks} {g n R : Nat} {xs : List Sn} {α : Type} [E : Elt α]
theorem RN.c0 (h : RN w W g n R xs L) : W.cell? ⟨g, 0, none⟩ = some (.int .i64 (n : Int)) := by
  obtain ⟨h1, h2, v, M, hr, hs⟩ := h
  exact (show At W g 68 #[.int .i64 (n : Int), .int .i64 (R : Int), v] from hs.get 0 rfl).cell 0
theorem wpList_build1_rn (h : RN w W g n R xs L) (x : Operand) (m : α) (ho : o.op = .buildSlice E.sl 1 #[(0, x)]) (hw : Region.wanted o (yielded ops a.tmps) = true) (hx : (a.eval x).cells = (E.cs m).toArray)
    (k : ∀ W', RN w W' g n R xs ((W.heap.size, C E.ty (E.cs m).toArray) :: L) → wpList Try.prog ops Q rest (a.put o.dst (.slice (some ⟨W.heap.size, 0, none⟩) 1 1)) W') : wpList Try.prog ops Q (o :: rest) a W := by
  obtain ⟨Y, hs', up⟩ := h.lift
  exact wpList_build1_st hs' x m ho hw hx fun W' h' => k W' (up W' _ (h'.perm (List.perm_middle).symm))
theorem wpList_build0_rn (h : RN w W g n R xs L) (ho : o.op = .buildSlice E.sl 0 #[]) (hw : Region.wanted o (yielded ops a.tmps) = true)
    (k : ∀ W' v M, RL v ([] : List α) M → RN w W' g n R xs (M ++ L) → wpList Try.prog ops Q rest (a.put o.dst v) W') : wpList Try.prog ops Q (o :: rest) a W := by
  obtain ⟨Y, hs', up⟩ := h.lift
  exact wpList_build0_st hs' ho hw fun W' v M _ hr h' _ => k W' v M hr (up W' _ (h'.perm (List.perm_append_comm_assoc M Y L)))
theorem wpList_append_rn {v : Value} {ys : List α} {m : α} {nb : Nat} (h : RN w W g n R xs ((nb, C E.ty (E.cs m).toArray) :: (M ++ L))) (hr : RL v ys M) (s x : Operand) (ho : o.op = .call { callee := .builtin .append, args := #[s, x], argTypes := #[E.sl, E.sl] }) (hw : Region.wanted o (yielded ops a.tmps) = true)
    (hsv : a.eval s = v) (hx : a.eval x = .slice (some ⟨nb, 0, none⟩) 1 1) (hl : ys.length ≤ 10000)
    (k : ∀ v' W' M', RL v' (ys ++ [m]) M' → RN w W' g n R xs (M' ++ L) → wpList Try.prog ops Q rest (a.put o.dst v') W') : wpList Try.prog ops Q (o :: rest) a W := by
  obtain ⟨Y, hs', up⟩ := h.lift
  have p1 : (Y ++ ((nb, C E.ty (E.cs m).toArray) :: (M ++ L))).Perm ((nb, C E.ty (E.cs m).toArray) :: (M ++ (Y ++ L))) := (List.perm_middle).trans (List.Perm.cons _ (List.perm_append_comm_assoc Y M L))
  have h1 := hs'.perm p1
  have h2 : St w W (M ++ ((nb, C E.ty (E.cs m).toArray) :: (Y ++ L))) := h1.perm (List.perm_middle).symm
  refine wpList_append_rl (ys := [m]) hr h2 (new_row h1) s x ho hw hsv hx (by omega) fun v' W' M' hr' h3 => k v' W' M' hr' (up W' _ ?_)
  exact (h3.sub ((List.sublist_cons_self _ _).append_left M')).perm (List.perm_append_comm_assoc M' Y L)
end
attribute [local irreducible] Msg.arr bufM marr Sn.arr isS msgsTo numsTo hasO lsTo unl rcn lks
def LkRel (w : World) (g n R : Nat) (xs : List Sn) (c : Nat → List Msg) (L : Blks) (top : Nat) (at_ : Nat → Nat) (s i : Value) (wr : World) : Prop :=
  ∃ (k : Nat) (M : Blks), k ≤ top ∧ i = .int .i64 (k : Nat) ∧ RL s (lsTo n c (at_ k)) M ∧ RN w wr g n R xs (M ++ L)
set_option maxRecDepth 20000 in
set_option maxHeartbeats 4000000 in
theorem rlinks_any {w W : World} {g n R : Nat} {xs : List Sn} {L : Blks} (h : RN w W g n R xs L) (hlen : xs.length ≤ 1000) :
    Calls Try.prog 32 #[.pointer (some ⟨g, 0, none⟩)] W fun e W' => ∃ v M, e = .returned v ∧ RL v (lsTo n (rcn n xs) (lks n)) M ∧ RN w W' g n R xs (M ++ L) := by
  have hn16 := h.1
  have hK := lks_le hn16
  have IDX : Hid (∀ a b d, a < 3 → b < n → d < n → (a * n + b) * n + d < lks n) := fun a b d ha hb hd => idx_lt ha hb hd
  have ALL := Lib.hid (fun W L (h : RN w W g n R xs L) (l : Lk) => rall_any h l hlen)
  have RC : Hid (∀ a b d, b < n → d < n → rcn n xs ((a * n + b) * n + d) = msgsTo ⟨(a : Int), (b : Int), (d : Int)⟩ xs xs.length ∧ unl n ((a * n + b) * n + d) = ⟨(a : Int), (b : Int), (d : Int)⟩) := fun a b d hb hd => by
    have hu := unl_idx (a := a) hb hd
    refine ⟨?_, hu⟩
    unfold rcn
    rw [hu]
  have SZ : Hid (lsTo n (rcn n xs) 0 = []) := by unfold lsTo; exact rfl
  have SS : Hid (∀ k, lsTo n (rcn n xs) (k + 1) = lsTo n (rcn n xs) k ++ (if (rcn n xs k).length = 0 then [] else [unl n k])) := fun k => lsTo_succ n _ k
  have SL := Lib.hid (fun k => lsTo_len n (rcn n xs) k)
  have EN : Hid (lks n = 3 * n * n) := by unfold lks; exact rfl
  generalize rcn n xs = c at *
  go_enter Try.func32, Try.ntmps32
  go_wp2_with (refine wpList_build0_rn (α := Lk) h rfl rfl ?_; clear h; intro W1 v1 M1 hr1 h1)
  go_loopw [3, 4] (LkRel w g n R xs c L 3 (fun a => a * n * n)) (fun _ i _ => 3 - (intOf i).toNat)
  case atStart => exact ⟨0, M1, by omega, rfl, by simp only [Nat.zero_mul]; rw [SZ.out]; exact hr1, h1⟩
  case round =>
    clear h1 hr1
    obtain ⟨a, M, ha, rfl, hr, h2⟩ := hrel
    replace hr : RL _ (lsTo n c (a * n * n)) M := hr
    by_cases hlt : a < 3
    · have g1 : ((a : Int) < 3) = True := eq_true (by omega)
      have HR2 := Lib.hid (show RL _ (lsTo n c ((a * n + 0) * n)) M from by rw [Nat.add_zero]; exact hr)
      have H2 := Lib.hid h2
      clear hr h2
      go_wp2
      go_loopw [3, 5] (LkRel w g n R xs c L n (fun b => (a * n + b) * n)) (fun _ i _ => n - (intOf i).toNat)
      case atStart => exact ⟨0, M, by omega, rfl, HR2.out, H2.out⟩
      case round =>
        clear H2 HR2
        obtain ⟨b, M3, hb, rfl, hr, h3⟩ := hrel
        replace hr : RL _ (lsTo n c ((a * n + b) * n)) M3 := hr
        have c0 := h3.c0
        by_cases hlt2 : b < n
        · have g2 : ((b : Int) < (n : Int)) = True := eq_true (by omega)
          have HR3 := Lib.hid (show RL _ (lsTo n c ((a * n + b) * n + 0)) M3 from hr)
          have H3 := Lib.hid h3
          clear hr h3
          go_wp2
          clear c0
          go_loopw [3, 6] (LkRel w g n R xs c L n (fun d => (a * n + b) * n + d)) (fun _ i _ => n - (intOf i).toNat)
          case atStart => exact ⟨0, M3, by omega, rfl, HR3.out, H3.out⟩
          case round =>
            clear H3 HR3
            obtain ⟨d, M4, hd, rfl, hr, h4⟩ := hrel
            replace hr : RL _ (lsTo n c ((a * n + b) * n + d)) M4 := hr
            have c0 := h4.c0
            by_cases hlt3 : d < n
            · have g3 : ((d : Int) < (n : Int)) = True := eq_true (by omega)
              have e1 := SS.out ((a * n + b) * n + d)
              obtain ⟨e3, e4⟩ := RC.out a b d hlt2 hlt3
              rw [e3, e4] at e1
              have ix := IDX.out a b d hlt hlt2 hlt3
              have sl := SL.out ((a * n + b) * n + d)
              have AL := Lib.hid (fun W L (h : RN w W g n R xs L) => ALL.out W L h ⟨(a : Int), (b : Int), (d : Int)⟩)
              have slen := Lib.hid (show (lsTo n c ((a * n + b) * n + d)).length ≤ 10000 by omega)
              clear e3 e4 ix sl
              generalize hix : (a * n + b) * n + d = ix at *
              replace hix := Lib.hid hix
              generalize msgsTo ⟨(a : Int), (b : Int), (d : Int)⟩ xs xs.length = ms at *
              replace hr := Lib.hid hr
              by_cases hl : ms.length = 0
              · rw [if_pos hl, List.append_nil] at e1
                replace e1 := Lib.hid e1
                have z2 : decide (0 < (ms.length : Int)) = false := decide_eq_false (by omega)
                have z3 : (0 < ms.length) = False := eq_false (by omega)
                have z4 : ((0 : Int) < (ms.length : Int)) = False := eq_false (by omega)
                go_wp2_with (first
                  | (have _ := h4; refine wpList_alloc_rn h4 51 rfl rfl _ #[.int .i64 0, .int .i64 0, .int .i64 0] zero51 rfl ?_; clear h4 c0; intro X1 h5; generalize wr.heap.size = b7 at *)
                  | (have _ := h5; refine wpList_store_rn (arr' := #[.int .i64 (a : Int), .int .i64 (b : Int), .int .i64 (d : Int)]) h5 0 rfl 51 (.tmp 7) (.tmp 34) rfl rfl rfl rfl sz51 rfl (by simp [Value.oneCell']) ?_; clear h5; intro X2 h6; replace h6 : RN w X2 g n R xs ((b7, C 51 #[.int .i64 (a : Int), .int .i64 (b : Int), .int .i64 (d : Int)]) :: (M4 ++ L)) := h6)
                  | (have _ := h6; refine wpList_loadL (l := ⟨(a : Int), (b : Int), (d : Int)⟩) (b := b7) (off := 0) (box_rangeL (h6.st.get 0 rfl)) (.tmp 7) rfl rfl rfl ?_)
                  | (have _ := h6; go_at_call 29; refine (AL.out _ _ h6).mono ?_; clear h6; rintro e X3 ⟨v6, v7, M6, M7, rfl, r6, r7, h7⟩; obtain ⟨A6, c6, rfl, _⟩ := r6.form; replace h7 := h7.sub ((List.sublist_append_right M7 _).trans (List.sublist_append_right M6 _))))
                go_roundw
                case rel => exact ⟨d + 1, M4, by omega, by go_num, by show RL _ (lsTo n c ((a * n + b) * n + (d + 1))) _; rw [← Nat.add_assoc, hix.out, e1.out]; exact hr.out, h7.sub (List.sublist_cons_self _ _)⟩
                case measure => simp [intOf]; omega
              · rw [if_neg hl] at e1
                replace e1 := Lib.hid e1
                have z2 : decide (0 < (ms.length : Int)) = true := decide_eq_true (by omega)
                have z3 : (0 < ms.length) = True := eq_true (by omega)
                have z4 : ((0 : Int) < (ms.length : Int)) = True := eq_true (by omega)
                go_wp2_with (first
                  | (have _ := h4; refine wpList_alloc_rn h4 51 rfl rfl _ #[.int .i64 0, .int .i64 0, .int .i64 0] zero51 rfl ?_; clear h4 c0; intro X1 h5; generalize wr.heap.size = b7 at *)
                  | (have _ := h5; refine wpList_store_rn (arr' := #[.int .i64 (a : Int), .int .i64 (b : Int), .int .i64 (d : Int)]) h5 0 rfl 51 (.tmp 7) (.tmp 34) rfl rfl rfl rfl sz51 rfl (by simp [Value.oneCell']) ?_; clear h5; intro X2 h6; replace h6 : RN w X2 g n R xs ((b7, C 51 #[.int .i64 (a : Int), .int .i64 (b : Int), .int .i64 (d : Int)]) :: (M4 ++ L)) := h6)
                  | (have _ := h6; refine wpList_loadL (l := ⟨(a : Int), (b : Int), (d : Int)⟩) (b := b7) (off := 0) (box_rangeL (h6.st.get 0 rfl)) (.tmp 7) rfl rfl rfl ?_)
                  | (have _ := h6; go_at_call 29; refine (AL.out _ _ h6).mono ?_; clear h6; rintro e X3 ⟨v6, v7, M6, M7, rfl, r6, r7, h7⟩; obtain ⟨A6, c6, rfl, _⟩ := r6.form; replace h7 := h7.sub ((List.sublist_append_right M7 _).trans (List.sublist_append_right M6 _)))
                  | (have _ := h7; refine wpList_loadL (l := ⟨(a : Int), (b : Int), (d : Int)⟩) (b := b7) (off := 0) (box_rangeL (h7.st.get 0 rfl)) (.tmp 7) rfl rfl rfl ?_)
                  | (have _ := h7; refine wpList_build1_rn h7 (.tmp 45) (⟨(a : Int), (b : Int), (d : Int)⟩ : Lk) rfl rfl rfl ?_; clear h7; intro X4 h8; replace h8 := h8.sub ((List.sublist_cons_self (b7, C 51 #[.int .i64 (a : Int), .int .i64 (b : Int), .int .i64 (d : Int)]) (M4 ++ L)).cons_cons _))
                  | (have _ := h8; refine wpList_append_rn h8 hr.out (.tmp 44) (.tmp 46) rfl rfl rfl rfl slen.out ?_; clear h8; intro v' X5 M5 hr' h9))
                go_roundw
                case rel => exact ⟨d + 1, M5, by omega, by go_num, by show RL _ (lsTo n c ((a * n + b) * n + (d + 1))) _; rw [← Nat.add_assoc, hix.out, e1.out]; exact hr', h9⟩
                case measure => simp [intOf]; omega
            · obtain rfl : d = n := by omega
              have g3 : ((d : Int) < (d : Int)) = False := eq_false (by omega)
              have HE := Lib.hid (show (a * d + b) * d + d = (a * d + (b + 1)) * d by rw [← Nat.add_assoc, Nat.succ_mul])
              replace hr := Lib.hid hr
              replace h4 := Lib.hid h4
              go_wp2
              go_roundw
              case rel => exact ⟨b + 1, M4, by omega, by go_num, by show RL _ (lsTo d c ((a * d + (b + 1)) * d)) _; rw [← HE.out]; exact hr.out, h4.out⟩
              case measure => simp [intOf]; omega
        · obtain rfl : b = n := by omega
          have g2 : ((b : Int) < (b : Int)) = False := eq_false (by omega)
          have HE := Lib.hid (show (a * b + b) * b = (a + 1) * b * b by rw [← Nat.succ_mul])
          replace hr := Lib.hid hr
          replace h3 := Lib.hid h3
          go_wp2
          go_roundw
          case rel => exact ⟨a + 1, M3, by omega, by go_num, by show RL _ (lsTo b c ((a + 1) * b * b)) _; rw [← HE.out]; exact hr.out, h3.out⟩
          case measure => simp [intOf]; omega
    · obtain rfl : a = 3 := by omega
      have HR2 := Lib.hid (show RL _ (lsTo n c (lks n)) M from by rw [EN.out]; exact hr)
      replace h2 := Lib.hid h2
      clear hr
      go_wp2
      go_ret
      exact ⟨_, M, rfl, HR2.out, h2.out⟩
end Go.Proofs.Ytacjdeppigdbjaa
