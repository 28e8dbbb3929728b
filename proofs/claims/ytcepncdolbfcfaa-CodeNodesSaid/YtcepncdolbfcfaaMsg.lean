/- Messages of lines and of items, the program's and the document's. No statement is proved here. -/
import Derived.Test.YtcepncdolbfcfaaNode
namespace Go.Proofs.Ytcepncdolbfcfaa
open Go.RowKit
set_option linter.unusedVariables false
set_option linter.unusedSimpArgs false
attribute [local irreducible] arrV

/-- A number's bits that fit into 64, and into 8. -/
def u64N (a : Int) : Nat := (a % 18446744073709551616).toNat
def u8N (a : Int) : Nat := (a % 256).toNat
theorem u64N_lt (a : Int) : u64N a < 18446744073709551616 := by unfold u64N; omega
theorem u8N_lt (a : Int) : u8N a < 256 := by unfold u8N; omega
theorem u64N_of (a : Int) : IntKind.u64.wrap a = (u64N a : Int) := by
  unfold u64N; simp [IntKind.wrap, IntKind.bits, IntKind.signed]; omega
theorem u64N_mod (a : Int) : a % 18446744073709551616 = (u64N a : Int) := by unfold u64N; omega
theorem u8N_of (a : Int) : IntKind.u8.wrap a = (u8N a : Int) := by
  unfold u8N; simp [IntKind.wrap, IntKind.bits, IntKind.signed]; omega
theorem u8N_mod (a : Int) : a % 256 = (u8N a : Int) := by unfold u8N; omega
def dataN (a : Int) (m : Nat) (u : Int) (xs : List Nat) : List Nat := [1] ++ nb (u64N a) 8 ++ nb m 8 ++ nb (u64N u) 2 ++ xs
def itemN (l i : Int) (xs : List Nat) : List Nat := [2] ++ nb (u64N l) 1 ++ nb (u64N i) 8 ++ xs
theorem data_len (a : Int) (m : Nat) (u : Int) (xs : List Nat) (hl : xs.length = 32) : (dataN a m u xs).length = 51 := by
  unfold dataN; simp [nb_length, hl]
theorem item_len (l i : Int) (xs : List Nat) (hl : xs.length = 32) : (itemN l i xs).length = 42 := by
  unfold itemN; simp [nb_length, hl]
theorem gives_of {w W : World} {A : Option Addr} {n c base : Nat} {ys zs : List Nat} (hO : Own W base A n c ys) (e : ys = zs) (hb : w.heap.size ≤ base) (hB : Below w.heap.size w W) : GivesRow w zs (.returned (.slice A n c)) W := by
  subst e
  have hl := hO.len
  subst hl
  exact ⟨A, c, rfl, hO.lower hb, hB⟩
theorem st_append {w W W3 : World} {L : List (Nat × TypeId × Array Value)} {A : Option Addr} {n c base : Nat} {ys : List Nat} (h : St w W L) (hO : Own W base A n c ys) (hb : ∀ x ∈ L, x.1 < base) (hlo : w.heap.size ≤ base) (hg : W.grownBy W3 (Value.slice A n c).ownBlock) : St w W3 L :=
  h.grown hg (fun x hx e => by have := (hO.2.2.lt _ e).1; have := hb x hx; omega) (fun k hk => by have := (hO.2.2.lt _ hk).1; omega)

set_option maxHeartbeats 1000000 in
theorem data_any (a : Int) (m : Nat) (u : Int) (xs : List Nat) (hl : xs.length = 32) (hb : ∀ x ∈ xs, x < 256) (hm : m < 18446744073709551616) (w : World) :
    Calls Try.prog 20 #[.int .i64 a, .int .u64 m, .int .i64 u, .agg (arrV xs)] w (GivesRow w (dataN a m u xs)) := by
  have N1 := Lib.hid (fun W A n c xs h1 h2 => number_any A n c xs (u64N a) 8 W h1 h2 (u64N_lt a) (by omega) (by omega))
  have N2 := Lib.hid (fun W A n c xs h1 h2 => number_any A n c xs m 8 W h1 h2 hm (by omega) (by omega))
  have N3 := Lib.hid (fun W A n c xs h1 h2 => number_any A n c xs (u64N u) 2 W h1 h2 (u64N_lt u) (by omega) (by omega))
  have e1 := u64N_of a
  have e2 := u64N_of u
  have HL := Lib.hid hl
  have HB := Lib.hid hb
  have h0 := St.nil w
  have HE := Lib.hid (show dataN a m u xs = [1] ++ nb (u64N a) (many 8) ++ nb m (many 8) ++ nb (u64N u) (many 2) ++ xs from rfl)
  generalize dataN a m u xs = D at *
  clear hl hb
  go_enter Try.func20, Try.ntmps20
  go_wp2_with (first
    | (refine wpList_box_st h0 33 _ rfl rfl (arrV xs) rfl ?_; clear h0; intro W1 h1 s1 _)
    | (go_at_call 43; refine (N1.out _ _ _ _ [1] ((Row.one _ 1 1 rfl (by omega)).wider (by simp)) (by omega)).mono ?_; intro e W2 hN; obtain ⟨A, c, rfl, hO, hb1⟩ := GivesRow.out (N := 9) hN rfl; have h2 := h1.call (((Below.refl _ _).alloc (Nat.le_refl _) _).trans (hb1.mono (by simp))); have z2 := Lib.hid hb1.size; clear h1 hN hb1 N1)
    | (go_at_call 43; refine (N2.out _ _ _ _ _ hO.row (by omega)).mono ?_; intro e W3 hN; clear hO; obtain ⟨A, c, rfl, hO, hb1⟩ := GivesRow.out (N := 17) hN rfl; have h3 := h2.call hb1; have z3 := Lib.hid hb1.size; clear h2 hN hb1 N2)
    | (go_at_call 43; refine (N3.out _ _ _ _ _ hO.row (by omega)).mono ?_; intro e W4 hN; clear hO; obtain ⟨A, c, rfl, hO, hb1⟩ := GivesRow.out (N := 19) hN rfl; have h4 := h3.call hb1; have z4 := Lib.hid hb1.size; clear h3 hN hb1 N3)
    | (refine wpList_append_row W4 rfl _ _ rfl W3.heap.size A 19 c _ rfl hO W4.heap.size _ 32 32 xs rfl ?hr (by omega) z4.out ?_; rotate_left; intro A5 c5 W5 hO5 hg5 _))
  case hr =>
    have := Blk.row (h4.get 0 rfl) HB.out 0 32 32 (by rw [HL.out]; omega) (by omega) (by omega)
    rwa [List.drop_zero, List.take_of_length_le (by rw [HL.out]; omega)] at this
  go_ret
  have s := s1.out
  have z2' := z2.out
  have z3' := z3.out
  have z4' := z4.out
  simp at z2'
  refine gives_of hO5 HE.out.symm (by omega) (st_append h4 hO (fun x hx => ?_) (by omega) hg5).bel
  obtain rfl : x = (w.heap.size, 33, arrV xs) := List.mem_singleton.1 hx
  simp only; omega
set_option maxHeartbeats 1000000 in
theorem refData_any (a : Int) (m : Nat) (u : Int) (xs : List Nat) (hl : xs.length = 32) (hb : ∀ x ∈ xs, x < 256) (hm : m < 18446744073709551616) (w : World) :
    Calls Try.prog 23 #[.int .i64 a, .int .u64 m, .int .i64 u, .agg (arrV xs)] w (GivesRow w (dataN a m u xs)) := by
  have N1 := Lib.hid (fun W A n c xs h1 h2 => refNumber_any A n c xs (u64N a) 8 W h1 h2 (u64N_lt a) (by omega) (by omega))
  have N2 := Lib.hid (fun W A n c xs h1 h2 => refNumber_any A n c xs m 8 W h1 h2 hm (by omega) (by omega))
  have N3 := Lib.hid (fun W A n c xs h1 h2 => refNumber_any A n c xs (u64N u) 2 W h1 h2 (u64N_lt u) (by omega) (by omega))
  have e1 := u64N_of a
  have e2 := u64N_of u
  have HL := Lib.hid hl
  have HB := Lib.hid hb
  have h0 := St.nil w
  have HE := Lib.hid (show dataN a m u xs = [1] ++ nb (u64N a) (many 8) ++ nb m (many 8) ++ nb (u64N u) (many 2) ++ xs from rfl)
  generalize dataN a m u xs = D at *
  clear hl hb
  go_enter Try.func23, Try.ntmps23
  go_wp2_with (first
    | (refine wpList_box_st h0 33 _ rfl rfl (arrV xs) rfl ?_; clear h0; intro W1 h1 s1 _)
    | (go_at_call 38; refine (N1.out _ _ _ _ [1] ((Row.one _ 1 1 rfl (by omega)).wider (by simp)) (by omega)).mono ?_; intro e W2 hN; obtain ⟨A, c, rfl, hO, hb1⟩ := GivesRow.out (N := 9) hN rfl; have h2 := h1.call (((Below.refl _ _).alloc (Nat.le_refl _) _).trans (hb1.mono (by simp))); have z2 := Lib.hid hb1.size; clear h1 hN hb1 N1)
    | (go_at_call 38; refine (N2.out _ _ _ _ _ hO.row (by omega)).mono ?_; intro e W3 hN; clear hO; obtain ⟨A, c, rfl, hO, hb1⟩ := GivesRow.out (N := 17) hN rfl; have h3 := h2.call hb1; have z3 := Lib.hid hb1.size; clear h2 hN hb1 N2)
    | (go_at_call 38; refine (N3.out _ _ _ _ _ hO.row (by omega)).mono ?_; intro e W4 hN; clear hO; obtain ⟨A, c, rfl, hO, hb1⟩ := GivesRow.out (N := 19) hN rfl; have h4 := h3.call hb1; have z4 := Lib.hid hb1.size; clear h3 hN hb1 N3)
    | (refine wpList_append_row W4 rfl _ _ rfl W3.heap.size A 19 c _ rfl hO W4.heap.size _ 32 32 xs rfl ?hr (by omega) z4.out ?_; rotate_left; intro A5 c5 W5 hO5 hg5 _))
  case hr =>
    have := Blk.row (h4.get 0 rfl) HB.out 0 32 32 (by rw [HL.out]; omega) (by omega) (by omega)
    rwa [List.drop_zero, List.take_of_length_le (by rw [HL.out]; omega)] at this
  go_ret
  have s := s1.out
  have z2' := z2.out
  have z3' := z3.out
  have z4' := z4.out
  simp at z2'
  refine gives_of hO5 HE.out.symm (by omega) (st_append h4 hO (fun x hx => ?_) (by omega) hg5).bel
  obtain rfl : x = (w.heap.size, 33, arrV xs) := List.mem_singleton.1 hx
  simp only; omega
theorem Row.two (w : World) (x y : Nat) (hx : x < 256) (hy : y < 256) : Row (w.alloc (.cells #[.int .u8 (x : Int), .int .u8 (y : Int)] 5)) (w.heap.size + 1) (some ⟨w.heap.size, 0, none⟩) 2 2 [x, y] := by
  refine ⟨rfl, by simp [hx, hy], Nat.le_refl _, by unfold maxLen; omega, (fun h => by cases h), fun a ha _ => ?_⟩
  injection ha with ha
  subst ha
  refine ⟨rfl, by simp, fun j hj => ?_⟩
  rcases (show j = 0 ∨ j = 1 by omega) with rfl | rfl <;> simp
theorem low_byte (l : Int) : nb (u64N l) 1 = [u8N l] := by
  simp only [nb, u64N, u8N]
  congr 1
  omega
set_option maxHeartbeats 1000000 in
theorem item_any (l i : Int) (xs : List Nat) (hl : xs.length = 32) (hb : ∀ x ∈ xs, x < 256) (w : World) :
    Calls Try.prog 21 #[.agg #[.int .i64 l, .int .i64 i], .agg (arrV xs)] w (GivesRow w (itemN l i xs)) := by
  have N1 := Lib.hid (fun W A n c xs h1 h2 => number_any A n c xs (u64N i) 8 W h1 h2 (u64N_lt i) (by omega) (by omega))
  have e1 := u64N_of i
  have e2 := u8N_of l
  have HL := Lib.hid hl
  have HB := Lib.hid hb
  have h0 := St.nil w
  have R2 := Lib.hid (fun W => Row.two W 2 (u8N l) (by omega) (u8N_lt l))
  have HE : Hid (itemN l i xs = [2, u8N l] ++ nb (u64N i) (many 8) ++ xs) := by unfold itemN; rw [low_byte]; exact rfl
  generalize itemN l i xs = D at *
  clear hl hb
  go_enter Try.func21, Try.ntmps21
  go_wp2_with (first
    | (refine wpList_box_st h0 52 _ rfl rfl #[.int .i64 l, .int .i64 i] rfl ?_; clear h0; intro W1 h1 s1 _)
    | (refine wpList_box_st h1 33 _ rfl rfl (arrV xs) rfl ?_; clear h1; intro W2 h2 s2 _; have c0 := h2.cell 0 rfl 0 (.int .i64 l) rfl; have c1 := h2.cell 0 rfl 1 (.int .i64 i) rfl; have l2 := (h2.get 0 rfl).lt)
    | (go_at_call 43; refine (N1.out _ _ _ _ _ ((R2.out _).wider (by simp)) (by omega)).mono ?_; intro e W3 hN; obtain ⟨A, c, rfl, hO, hb1⟩ := GivesRow.out (N := 10) hN rfl; have h3 := h2.call (((Below.refl _ _).alloc (Nat.le_refl _) _).trans (hb1.mono (by simp))); have z3 := Lib.hid hb1.size; clear h2 c0 c1 hN hb1 N1)
    | (refine wpList_append_row W3 rfl _ _ rfl _ A 10 c _ rfl hO W3.heap.size _ 32 32 xs rfl ?hr (by omega) z3.out ?_; rotate_left; intro A5 c5 W5 hO5 hg5 _))
  case hr =>
    have := Blk.row (h3.get 1 rfl) HB.out 0 32 32 (by rw [HL.out]; omega) (by omega) (by omega)
    rwa [List.drop_zero, List.take_of_length_le (by rw [HL.out]; omega)] at this
  go_ret
  have s := s1.out
  have s' := s2.out
  have z3' := z3.out
  simp at z3'
  refine gives_of hO5 HE.out.symm (by simp; omega) (st_append h3 hO (fun x hx => ?_) (by simp; omega) hg5).bel
  rcases List.mem_append.1 hx with hx | hx
  · obtain rfl := List.mem_singleton.1 hx
    simp; omega
  · obtain rfl := List.mem_singleton.1 hx
    simp; omega
set_option maxHeartbeats 1000000 in
theorem refItem_any (l i : Int) (xs : List Nat) (hl : xs.length = 32) (hb : ∀ x ∈ xs, x < 256) (w : World) :
    Calls Try.prog 24 #[.agg #[.int .i64 l, .int .i64 i], .agg (arrV xs)] w (GivesRow w (itemN l i xs)) := by
  have N0 := Lib.hid (fun W A n c xs h1 h2 => refNumber_any A n c xs (u64N l) 1 W h1 h2 (u64N_lt l) (by omega) (by omega))
  have N1 := Lib.hid (fun W A n c xs h1 h2 => refNumber_any A n c xs (u64N i) 8 W h1 h2 (u64N_lt i) (by omega) (by omega))
  have e1 := u64N_of i
  have e2 := u64N_of l
  have HL := Lib.hid hl
  have HB := Lib.hid hb
  have h0 := St.nil w
  have HE := Lib.hid (show itemN l i xs = [2] ++ nb (u64N l) (many 1) ++ nb (u64N i) (many 8) ++ xs from rfl)
  generalize itemN l i xs = D at *
  clear hl hb
  go_enter Try.func24, Try.ntmps24
  go_wp2_with (first
    | (refine wpList_box_st h0 52 _ rfl rfl #[.int .i64 l, .int .i64 i] rfl ?_; clear h0; intro W1 h1 s1 _)
    | (refine wpList_box_st h1 33 _ rfl rfl (arrV xs) rfl ?_; clear h1; intro W2 h2 s2 _; have c0 := h2.cell 0 rfl 0 (.int .i64 l) rfl; have c1 := h2.cell 0 rfl 1 (.int .i64 i) rfl; have l2 := (h2.get 0 rfl).lt)
    | (go_at_call 38; refine (N0.out _ _ _ _ [2] ((Row.one _ 2 2 rfl (by omega)).wider (by simp)) (by omega)).mono ?_; intro e W3 hN; obtain ⟨A, c, rfl, hO, hb1⟩ := GivesRow.out (N := 2) hN rfl; have h3 := h2.call (((Below.refl _ _).alloc (Nat.le_refl _) _).trans (hb1.mono (by simp))); have z3 := Lib.hid hb1.size; clear h2 c0 c1 hN hb1 N0; have c1 := h3.cell 0 rfl 1 (.int .i64 i) rfl)
    | (go_at_call 38; refine (N1.out _ _ _ _ _ hO.row (by omega)).mono ?_; intro e W4 hN; clear hO; obtain ⟨A, c, rfl, hO, hb1⟩ := GivesRow.out (N := 10) hN rfl; have h4 := h3.call hb1; have z4 := Lib.hid hb1.size; clear h3 c1 hN hb1 N1)
    | (refine wpList_append_row W4 rfl _ _ rfl _ A 10 c _ rfl hO W4.heap.size _ 32 32 xs rfl ?hr (by omega) z4.out ?_; rotate_left; intro A5 c5 W5 hO5 hg5 _))
  case hr =>
    have := Blk.row (h4.get 1 rfl) HB.out 0 32 32 (by rw [HL.out]; omega) (by omega) (by omega)
    rwa [List.drop_zero, List.take_of_length_le (by rw [HL.out]; omega)] at this
  go_ret
  have s := s1.out
  have s' := s2.out
  have z3' := z3.out
  have z4' := z4.out
  simp at z3'
  refine gives_of hO5 HE.out.symm (by omega) (st_append h4 hO (fun x hx => ?_) (by omega) hg5).bel
  rcases List.mem_append.1 hx with hx | hx
  · obtain rfl := List.mem_singleton.1 hx
    simp; omega
  · obtain rfl := List.mem_singleton.1 hx
    simp; omega
end Go.Proofs.Ytcepncdolbfcfaa
