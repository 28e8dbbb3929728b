/- The document's cache: its list; where a number stands in it; the numbers of a set. No statement is proved here. -/
import Derived.Test.YtmlepikgiicaiaaOrdPlain
namespace Go.Proofs.Ytmlepikgiicaiaa
open Go.RowKit
set_option linter.unusedVariables false
set_option linter.unusedSimpArgs false

def toP (e : Ent) : Pr := ⟨e.k, e.v⟩
/-- The document's cache (block gr): sets S, ways N, its list l; L: the other blocks. -/
def RC (w W : World) (gr S N : Nat) (l : List Ent) (L : Blks) : Prop :=
  ∃ v M, RL v (l.map toP) M ∧ St w W ((gr, C 43 #[.int .i64 (S : Int), .int .i64 (N : Int), v]) :: (M ++ L))
theorem rlp_cells {v : Value} {xs : List Pr} {M : Blks} (h : RL v xs M) : v.cells = #[v] ∧ v.oneCell' = true := by
  obtain ⟨A, c, rfl, _⟩ := h.form
  exact ⟨rfl, rfl⟩
theorem sz41 : (Try.prog.info? 41).map (·.size) = some 1 := by kernel_rfl
theorem sz43 : (Try.prog.info? 43).map (·.size) = some 3 := by kernel_rfl
section
variable {w W W' : World} {gr S N : Nat} {l : List Ent} {L M : Blks}
theorem RC.lift (h : RC w W gr S N l L) : ∃ Y : Blks, St w W (Y ++ L) ∧ ∀ W' M, St w W' (Y ++ M) → RC w W' gr S N l M := by
  obtain ⟨v, M, hr, hs⟩ := h
  exact ⟨(gr, C 43 #[.int .i64 (S : Int), .int .i64 (N : Int), v]) :: M, hs, fun W' M' h' => ⟨v, M, hr, h'⟩⟩
theorem RC.st (h : RC w W gr S N l L) : St w W L := by
  obtain ⟨Y, hs, _⟩ := h.lift
  exact hs.sub (List.sublist_append_right Y L)
theorem RC.bel (h : RC w W gr S N l L) : Below w.heap.size w W := h.st.bel
theorem RC.drewN (h : RC w W gr S N l L) (j : Nat) : RC w (W.drewN j) gr S N l L := by
  obtain ⟨Y, hs, up⟩ := h.lift
  exact up _ _ (hs.drewN j)
theorem RC.call (h : RC w W gr S N l L) (hb : Below W.heap.size W W') : RC w W' gr S N l L := by
  obtain ⟨Y, hs, up⟩ := h.lift
  exact up _ _ (hs.call hb)
theorem RC.sub (h : RC w W gr S N l L) (hs : M.Sublist L) : RC w W gr S N l M := by
  obtain ⟨Y, hs', up⟩ := h.lift
  exact up _ _ (hs'.sub (hs.append_left Y))
theorem RC.perm (h : RC w W gr S N l L) (hp : L.Perm M) : RC w W gr S N l M := by
  obtain ⟨Y, hs', up⟩ := h.lift
  exact up _ _ (hs'.perm (hp.append_left Y))
theorem RC.open_ (h : RC w W gr S N l L) : ∃ A p, W.cell? ⟨gr, 0, none⟩ = some (.int .i64 (S : Int)) ∧ W.cell? ⟨gr, 1, none⟩ = some (.int .i64 (N : Int)) ∧ W.cell? ⟨gr, 2, none⟩ = some (.slice A l.length p) ∧ ERow W W.heap.size A l.length p (l.map toP) := by
  obtain ⟨v, M, hr, hs⟩ := h
  obtain ⟨A, p, rfl, _⟩ := hr.form
  have hA : At W gr 43 #[.int .i64 (S : Int), .int .i64 (N : Int), .slice A (l.map toP).length p] := hs.get 0 rfl
  rw [List.length_map] at hA
  have hr2 := hr.row (hs.perm (List.perm_middle (l₁ := M)).symm) rfl
  rw [List.length_map] at hr2
  exact ⟨A, p, hA.cell 0, hA.cell 1, hA.cell 2, hr2⟩
theorem fitR_any (s : Int) (w : World) : Calls Try.prog 26 #[.int .i64 s] w fun e W' => e = .returned (.int .i64 (fitN s : Nat)) ∧ W' = w := by
  by_cases h1 : s < 1
  · have e : Hid (((fitN s : Nat) : Int) = 1) := show _ = _ by unfold fitN; omega
    have q : (s < 1) = True := eq_true h1
    go_enter Try.func26, Try.ntmps26
    go_wp2
    go_ret
    exact ⟨by rw [e.out]; rfl, rfl⟩
  · have q : (s < 1) = False := eq_false h1
    by_cases h2 : 64 < s
    · have e : Hid (((fitN s : Nat) : Int) = 64) := show _ = _ by unfold fitN; omega
      have q2 : (64 < s) = True := eq_true h2
      go_enter Try.func26, Try.ntmps26
      go_wp2
      go_ret
      exact ⟨by rw [e.out]; rfl, rfl⟩
    · have e : Hid (((fitN s : Nat) : Int) = s) := show _ = _ by unfold fitN; omega
      have q2 : (64 < s) = False := eq_false h2
      go_enter Try.func26, Try.ntmps26
      go_wp2
      go_ret
      exact ⟨by rw [e.out]; rfl, rfl⟩
def RfRel (W : World) (l : List Ent) (k : Int) (i : Value) (wr : World) : Prop :=
  ∃ j : Nat, j ≤ l.length ∧ i = .int .i64 (j : Nat) ∧ (∀ m y, m < j → l[m]? = some y → y.k ≠ k) ∧ wr = W
theorem pr_cells {W : World} {B n c : Nat} {A : Option Addr} {l : List Ent} (h : ERow W B A n c (l.map toP)) (j : Nat) (e : Ent) (he : l[j]? = some e) : ∃ b o, A = some ⟨b, o, none⟩ ∧ b < B ∧ W.cell? ⟨b, o + j * 2, none⟩ = some (.int .i64 e.k) ∧ W.cell? ⟨b, o + j * 2 + 1, none⟩ = some (.int .i64 e.v) ∧ W.rangeAt b (o + j * 2) (Elt.cs (toP e)) := by
  obtain ⟨b, o, rfl, hb, r⟩ := h.at_ j (toP e) (by rw [List.getElem?_map, he]; rfl)
  exact ⟨b, o, rfl, hb, r 0 _ rfl, r 1 _ rfl, r⟩
set_option maxHeartbeats 1000000 in
theorem rfind_any (h : RC w W gr S N l L) (k : Int) :
    Calls Try.prog 17 #[.pointer (some ⟨gr, 0, none⟩), .int .i64 k] W fun e W' => e = .returned (.int .i64 (fndV l k)) ∧ W' = W := by
  obtain ⟨A, p, c0, c1, c2, hrow⟩ := h.open_
  have HX := Lib.hid hrow
  have mx := hrow.max
  clear h hrow c0 c1
  generalize hln : l.length = n at *
  replace hln := Lib.hid hln
  go_enter Try.func17, Try.ntmps17
  go_wp2
  go_loopw [5] (RfRel W l k) (fun i _ => n - (intOf i).toNat)
  case atStart => exact ⟨0, by omega, rfl, fun m y hm => absurd hm (by omega), rfl⟩
  case round =>
    obtain ⟨j, hj, rfl, hall, rfl⟩ := hrel
    rw [hln.out] at hj
    replace hall := Lib.hid hall
    by_cases hlt : j < n
    · have g1 : ((j : Int) < (n : Int)) = True := eq_true (by omega)
      have b1 : j < l.length := by have := hln.out; omega
      have hx : l[j]? = some l[j] := List.getElem?_eq_getElem b1
      generalize l[j] = x at *
      obtain ⟨b, o, rfl, _, d1, _⟩ := pr_cells HX.out j x hx
      replace hx := Lib.hid hx
      clear b1
      by_cases hxk : x.k = k
      · have q : (x.k == k) = true := by simpa using hxk
        have q2 : (x.k = k) = True := eq_true hxk
        have e1 : Hid (fndV l k = (j : Int)) := show _ = _ by unfold fndV; rw [fnd_some hx.out hxk hall.out]
        clear hxk
        go_wp2
        go_ret
        exact ⟨by rw [e1.out]; rfl, rfl⟩
      · have q : (x.k == k) = false := by simpa using hxk
        have q2 : (x.k = k) = False := eq_false hxk
        replace hxk := Lib.hid hxk
        go_wp2
        go_roundw
        case rel => exact ⟨j + 1, by have := hln.out; omega, by go_num, fun m y hm hy => by
            rcases Nat.lt_or_ge m j with q2 | q2
            · exact hall.out m y q2 hy
            · obtain rfl : m = j := by omega
              have e1 := hx.out
              rw [hy] at e1
              injection e1 with e1
              rw [e1]; exact hxk.out, rfl⟩
        case measure => simp [intOf]; omega
    · obtain rfl : j = n := by omega
      have g1 : ((j : Int) < (j : Int)) = False := eq_false (by omega)
      have e1 : Hid (fndV l k = -1) := show _ = _ by unfold fndV; rw [fnd_none (fun m y hm hy => hall.out m y (by have := hln.out; omega) hy)]
      go_wp2
      go_ret
      exact ⟨by rw [e1.out]; rfl, rfl⟩
/-- The list without what stands by a number. -/
def dropR (l : List Ent) (k : Int) : List Ent := match fnd l k with | some i => l.take i ++ l.drop (i + 1) | none => l
set_option maxHeartbeats 2000000 in
theorem rdrop_any (h : RC w W gr S N l L) (k : Int) (hl : l.length ≤ 1000) :
    Calls Try.prog 13 #[.pointer (some ⟨gr, 0, none⟩), .int .i64 k] W fun e W' => e = .returned (.bool (fnd l k).isSome) ∧ RC w W' gr S N (dropR l k) L := by
  have FI := Lib.hid (rfind_any h k)
  cases hf : fnd l k with
  | none =>
    have e1 : fndV l k = -1 := by unfold fndV; rw [hf]
    have e2 : Hid (dropR l k = l) := show _ = _ by unfold dropR; rw [hf]
    rw [e1] at FI
    generalize dropR l k = D at *
    clear hf e1
    go_enter Try.func13, Try.ntmps13
    go_wp2_with (go_at_call 17; refine FI.out.mono ?_; rintro e W2 ⟨rfl, rfl⟩)
    go_ret
    exact ⟨rfl, by rw [e2.out]; exact h⟩
  | some i =>
  have e1 : fndV l k = (i : Int) := by unfold fndV; rw [hf]
  have e2 : dropR l k = l.take i ++ l.drop (i + 1) := by unfold dropR; rw [hf]
  obtain ⟨x, hx, _, _⟩ := fnd_spec hf
  have hil : i < l.length := (List.getElem?_eq_some_iff.1 hx).1
  rw [e1] at FI
  rw [e2]
  clear e1 e2 hf
  obtain ⟨v, M, hrl, hs⟩ := h
  obtain ⟨A, p, rfl, hA0⟩ := hrl.form
  cases A with
  | none => have h9 := (hA0 rfl).1; rw [List.map_eq_nil_iff] at h9; subst h9; simp at hil
  | some ad =>
  have hrow := hrl.row (hs.perm (List.perm_middle (l₁ := M)).symm) rfl
  obtain ⟨_, _, e1, _, _⟩ := hrow.at_ i (toP x) (by rw [List.getElem?_map, hx]; rfl)
  clear hx
  obtain ⟨b, o, spot⟩ := ad
  injection e1 with e1
  injection e1 with e1 e2 e3
  subst e3
  clear e1 e2
  have hnc := hrow.2.1
  have hcm : p ≤ 9223372036854775807 := by have := hrow.2.2.1; unfold maxLen at this; omega
  have T1 : ∀ V L2, St w V ((gr, C 43 #[.int .i64 (S : Int), .int .i64 (N : Int), .slice (some ⟨b, o, none⟩) (l.map toP).length p]) :: (M ++ L2)) → ERow V V.heap.size (some ⟨b, o, none⟩) i p ((l.take i).map toP) := fun V L2 h => by
    have := (hrl.row (h.perm (List.perm_middle (l₁ := M)).symm) rfl).take i (by simp; omega)
    rw [List.map_take]; exact this
  obtain ⟨m, hm⟩ : ∃ m, m = i + 1 := ⟨_, rfl⟩
  have T2 : ∀ V L2, St w V ((gr, C 43 #[.int .i64 (S : Int), .int .i64 (N : Int), .slice (some ⟨b, o, none⟩) (l.map toP).length p]) :: (M ++ L2)) → ERow V V.heap.size (dropA (some ⟨b, o, none⟩) p m 2) ((l.map toP).length - m) (p - m) ((l.drop m).map toP) := fun V L2 h => by
    have := (hrl.row (h.perm (List.perm_middle (l₁ := M)).symm) rfl).from_ m (by simp; omega)
    rw [List.map_drop]; exact this
  rw [← hm]
  obtain ⟨A2, hA2, hA3⟩ : ∃ A2 : Addr, (if p = m then (some ⟨b, o, none⟩ : Option Addr) else some ⟨b, o + m * 2, none⟩) = some A2 ∧ dropA (some ⟨b, o, none⟩) p m 2 = some A2 := by
    unfold dropA
    by_cases hc : p = m
    · exact ⟨_, if_pos hc, if_pos hc⟩
    · refine ⟨⟨b, o + m * 2, none⟩, if_neg hc, ?_⟩
      rw [if_neg hc, Option.map_some, Addr.add_lit]
  rw [hA3] at T2
  replace T1 := Lib.hid T1
  replace T2 := Lib.hid T2
  clear hrow hA0 hrl
  have l1 := Lib.hid (show ([] : List Pr).length + i ≤ 100000 by simp; omega)
  have l2 := Lib.hid (show ((l.take i).map toP).length + ((l.map toP).length - m) ≤ 100000 by simp; omega)
  have hlm : (l.map toP).length = l.length := by simp
  rw [hlm] at hs T1 T2 l2 hnc
  generalize l.length = n at *
  have b1 : i ≤ n := by omega
  have b2 : m ≤ n := by omega
  have b3 : i ≤ p := by omega
  have b4 : m ≤ p := by omega
  have q0 : ((i : Int) < 0) = False := eq_false (by omega)
  have hmI : (i : Int) + 1 = (m : Int) := by omega
  have hw : IntKind.i64.wrap (m : Int) = (m : Int) := IntWalk.i64_in _ (by omega)
  have c2 := hs.cell 0 rfl 2 (.slice (some ⟨b, o, none⟩) n p) rfl
  have FIN := Lib.hid (fun V v3 M3 (hr : RL v3 ((l.take i).map toP ++ (l.drop m).map toP) M3) (h : St w V ((gr, C 43 #[.int .i64 (S : Int), .int .i64 (N : Int), v3]) :: (M3 ++ L))) => show RC w V gr S N (l.take i ++ l.drop m) L from ⟨v3, M3, by rw [List.map_append]; exact hr, h⟩)
  generalize (l.take i).map toP = t1 at *
  generalize (l.drop m).map toP = t2 at *
  clear hm hA3 hlm
  go_enter Try.func13, Try.ntmps13
  go_wp2_with (first
    | (go_at_call 17; refine FI.out.mono ?_; rintro e W2 ⟨rfl, rfl⟩)
    | (have _ := hs; refine wpList_build0_st (α := Pr) hs rfl rfl ?_; clear hs c2; intro W3 v4 M4 hv4 r4 h4 _; replace h4 := St.swap (X := M4) (M := [_]) h4; have c2 := h4.cell 0 rfl 2 (.slice (some ⟨b, o, none⟩) n p) rfl; replace hv4 := Lib.hid hv4)
    | (have _ := h4; refine wpList_append_rl r4 (St.swap (X := [_]) h4) (T1.out _ (M4 ++ L) (h4.perm ((List.perm_append_comm_assoc M4 M L).cons _))) _ _ rfl rfl rfl rfl l1.out ?_; clear h4 c2 r4; intro v5 W5 M5 r5 h5; replace h5 := St.swap (X := M5) (M := [_]) h5; have c2 := h5.cell 0 rfl 2 (.slice (some ⟨b, o, none⟩) n p) rfl; rw [List.nil_append] at r5)
    | (have _ := h5; refine wpList_append_rl r5 (St.swap (X := [_]) h5) (T2.out _ (M5 ++ L) (h5.perm ((List.perm_append_comm_assoc M5 M L).cons _))) _ _ rfl rfl rfl rfl l2.out ?_; clear h5 c2 r5; intro v6 W6 M6 r6 h6; replace h6 := St.swap (X := M6) (M := [_]) h6)
    | (have _ := h6; refine wpList_cell_st h6 0 rfl 41 _ _ rfl rfl 2 v6 rfl rfl (by simp) (rlp_cells r6).1 (rlp_cells r6).2 sz41 ?_; clear h6; intro W7 h7 _))
  go_ret
  refine ⟨rfl, FIN.out _ _ _ r6 ?_⟩
  have h8 : St w W7 ((gr, C 43 #[.int .i64 (S : Int), .int .i64 (N : Int), v6]) :: (M6 ++ (M ++ L))) := h7
  exact h8.sub (((List.sublist_append_right M L).append_left M6).cons_cons _)
end
end Go.Proofs.Ytmlepikgiicaiaa
