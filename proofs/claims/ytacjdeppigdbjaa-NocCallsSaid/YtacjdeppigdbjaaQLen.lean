/- A queue's length and its room; what it does, told of its messages. No statement is proved here. -/
import Derived.Test.YtacjdeppigdbjaaTake
import Derived.Conc.LoneSelectN
namespace Go.Proofs.Ytacjdeppigdbjaa
open Go.RowKit
set_option linter.unusedVariables false
set_option linter.unusedSimpArgs false

attribute [local irreducible] Msg.arr bufM
section
variable {w W : World} {L : Blks} {g h k p q s1 r1 s2 r2 : Nat} {R : Int} {A B : List Msg} {m x y : Msg}
theorem len_core (h0 : St w W ((g, C 79 #[.int .i64 R, .chan (some h), .chan (some k)]) :: (h, Ch p (bufM A) s1 r1) :: (k, Ch q (bufM B) s2 r2) :: L)) (hl : A.length + B.length ≤ 5000) :
    Calls Try.prog 17 #[.pointer (some ⟨g, 0, none⟩)] W fun e W' => e = .returned (.int .i64 ((A.length + B.length : Nat) : Int)) ∧ ∃ j, W' = W.drewN j := by
  have c1 := h0.cell 0 rfl 1 (.chan (some h)) rfl
  have c2 := h0.cell 0 rfl 2 (.chan (some k)) rfl
  have l1 := fun j ty => Go.Conc.run_len_chan (P := Try.prog) 77 ty Try.underlying77 ((h0.drewN j).get 1 rfl)
  have l2 := fun j ty => Go.Conc.run_len_chan (P := Try.prog) 77 ty Try.underlying77 ((h0.drewN j).get 2 rfl)
  rw [bufM_size] at l1 l2
  have e : IntKind.i64.wrap ((A.length : Int) + (B.length : Int)) = ((A.length + B.length : Nat) : Int) := by rw [IntWalk.i64_in _ (by omega)]; simp
  generalize ((A.length + B.length : Nat) : Int) = N at *
  generalize (A.length : Int) = a at *
  generalize (B.length : Int) = b at *
  clear h0 hl
  go_enter Try.func17, Try.ntmps17
  go_wp2
  go_quiet (fail)
  go_wp2
  go_ret
  exact ⟨rfl, _, rfl⟩
theorem room_core (h0 : St w W ((g, C 79 #[.int .i64 R, .chan (some h), .chan (some k)]) :: (h, Ch p (bufM A) s1 r1) :: (k, Ch q (bufM B) s2 r2) :: L)) (hl : A.length + B.length ≤ 5000) (hR : 0 ≤ R ∧ R ≤ 5000) :
    Calls Try.prog 18 #[.pointer (some ⟨g, 0, none⟩)] W fun e W' => e = .returned (.int .i64 (R - ((A.length + B.length : Nat) : Int))) ∧ ∃ j, W' = W.drewN j := by
  have c0 := h0.cell 0 rfl 0 (.int .i64 R) rfl
  have LE := Lib.hid (fun j => len_core (h0.drewN j) hl)
  have e : IntKind.i64.wrap (R - ((A.length + B.length : Nat) : Int)) = R - ((A.length + B.length : Nat) : Int) := IntWalk.i64_in _ (by omega)
  generalize ((A.length + B.length : Nat) : Int) = N at *
  clear h0 hl hR
  go_enter Try.func18, Try.ntmps18
  go_wp2
  go_quiet ((go_at_call 17; exact Calls.quiet_of (LE.out _)))
  go_wp2
  go_ret
  exact ⟨rfl, _, rfl⟩
end
section
variable {w W : World} {L : Blks} {g R : Nat} {xs : List Msg} {m x : Msg}
theorem split_len (xs : List Msg) : (xs.take 1).length + (xs.drop 1).length = xs.length := by simp; omega
theorem len_any (h : QQ w W g R xs L) : Calls Try.prog 17 #[.pointer (some ⟨g, 0, none⟩)] W fun e W' => e = .returned (.int .i64 (xs.length : Nat)) ∧ ∃ j, W' = W.drewN j := by
  obtain ⟨h1, h2, _, _, _, _, _, _, hs⟩ := h
  have := len_core hs (by rw [split_len]; omega)
  rwa [split_len] at this
theorem room_any (h : QQ w W g R xs L) : Calls Try.prog 18 #[.pointer (some ⟨g, 0, none⟩)] W fun e W' => e = .returned (.int .i64 ((R : Int) - (xs.length : Nat))) ∧ ∃ j, W' = W.drewN j := by
  obtain ⟨h1, h2, _, _, _, _, _, _, hs⟩ := h
  have := room_core hs (by rw [split_len]; omega) (by omega)
  rwa [split_len] at this
theorem QQ.drewN (h : QQ w W g R xs L) (j : Nat) : QQ w (W.drewN j) g R xs L := by
  obtain ⟨h1, h2, a, b, c, d, e, f, hs⟩ := h
  exact ⟨h1, h2, a, b, c, d, e, f, hs.drewN j⟩
theorem QQ.st (h : QQ w W g R xs L) : St w W L := by
  obtain ⟨h1, h2, a, b, c, d, e, f, hs⟩ := h
  exact hs.tail.tail.tail
/-- A message is put into a queue that has room. -/
theorem put_ok (h : QQ w W g R xs L) (hr : xs.length < R) :
    Calls Try.prog 14 #[.pointer (some ⟨g, 0, none⟩), .agg m.arr] W fun e W' => e = .returned (.int .i64 0) ∧ QQ w W' g R (xs ++ [m]) L := by
  obtain ⟨h1, h2, a, b, c, d, e, f, hs⟩ := h
  cases xs with
  | nil =>
    refine (put_yes1 (m := m) hs (show (0 : Nat) < min R 1 by simp at hr; omega)).mono ?_
    rintro e W' ⟨rfl, h3⟩
    exact ⟨rfl, by simp; simp at hr; omega, h2, a, b, _, _, _, _, h3⟩
  | cons x xs =>
    simp only [List.length_cons] at hr h1
    refine (put_yes2 (m := m) hs (show ¬ (1 : Nat) < min R 1 by omega) (show xs.length < R - min R 1 by omega)).mono ?_
    rintro e W' ⟨rfl, h3⟩
    exact ⟨rfl, by simp; omega, h2, a, b, _, _, _, _, h3⟩
theorem put_full (h : QQ w W g R xs L) (hr : ¬ xs.length < R) :
    Calls Try.prog 14 #[.pointer (some ⟨g, 0, none⟩), .agg m.arr] W fun e W' => e = .returned (.int .i64 5) ∧ QQ w W' g R xs L := by
  obtain ⟨h1, h2, a, b, c, d, e, f, hs⟩ := h
  refine (put_no (m := m) hs (show ¬ (xs.take 1).length < min R 1 by simp; omega) (show ¬ (xs.drop 1).length < R - min R 1 by simp; omega)).mono ?_
  rintro e W' ⟨rfl, h3⟩
  exact ⟨rfl, h1, h2, a, b, _, _, _, _, h3⟩
theorem take_nil (h : QQ w W g R [] L) :
    Calls Try.prog 12 #[.pointer (some ⟨g, 0, none⟩)] W fun e W' => e = .returned (.tuple #[.agg zmsg.arr, .int .i64 6]) ∧ QQ w W' g R [] L := by
  obtain ⟨h1, h2, a, b, c, d, e, f, hs⟩ := h
  refine (Go.Proofs.Ytacjdeppigdbjaa.take_none hs).mono ?_
  rintro e W' ⟨rfl, h3⟩
  exact ⟨rfl, h1, h2, a, b, _, _, _, _, h3⟩
theorem take_cons (h : QQ w W g R (x :: xs) L) :
    Calls Try.prog 12 #[.pointer (some ⟨g, 0, none⟩)] W fun e W' => e = .returned (.tuple #[.agg x.arr, .int .i64 0]) ∧ QQ w W' g R xs L := by
  obtain ⟨h1, h2, a, b, c, d, e, f, hs⟩ := h
  simp only [List.length_cons] at h1
  cases xs with
  | nil =>
    refine (Go.Proofs.Ytacjdeppigdbjaa.take_one hs).mono ?_
    rintro e W' ⟨rfl, h3⟩
    exact ⟨rfl, by simp, h2, a, b, _, _, _, _, h3⟩
  | cons y ys =>
    refine (take_more (x := x) (y := y) (B := ys) hs (by omega)).mono ?_
    rintro e W' ⟨rfl, h3⟩
    exact ⟨rfl, by simp at h1 ⊢; omega, h2, a, b, _, _, _, _, h3⟩
theorem first_nil (h : QQ w W g R [] L) :
    Calls Try.prog 16 #[.pointer (some ⟨g, 0, none⟩)] W fun e W' => e = .returned (.tuple #[.agg zmsg.arr, .int .i64 6]) ∧ QQ w W' g R [] L := by
  obtain ⟨h1, h2, a, b, c, d, e, f, hs⟩ := h
  refine (Go.Proofs.Ytacjdeppigdbjaa.first_none hs).mono ?_
  rintro e W' ⟨rfl, h3⟩
  exact ⟨rfl, h1, h2, a, b, _, _, _, _, h3⟩
theorem first_cons (h : QQ w W g R (x :: xs) L) :
    Calls Try.prog 16 #[.pointer (some ⟨g, 0, none⟩)] W fun e W' => e = .returned (.tuple #[.agg x.arr, .int .i64 0]) ∧ QQ w W' g R (x :: xs) L := by
  obtain ⟨h1, h2, a, b, c, d, e, f, hs⟩ := h
  refine (Go.Proofs.Ytacjdeppigdbjaa.first_some hs (by simp at h1; omega)).mono ?_
  rintro e W' ⟨rfl, h3⟩
  exact ⟨rfl, h1, h2, a, b, _, _, _, _, h3⟩
end
end Go.Proofs.Ytacjdeppigdbjaa
