/- Memory is made; writes are to be dropped; a bit is turned. No statement is proved here. -/
import Derived.Test.YtbmdkmnkbchokaaMem6
namespace Go.Proofs.Ytbmdkmnkbchokaa
open Go.RowKit
set_option linter.unusedVariables false
set_option linter.unusedSimpArgs false

/-- Memory that nobody has used. -/
def Mm.fresh (xs : List Nat) : Mm := ⟨xs, 0, 0, 0, 0, [0, 0, 0, 0]⟩
theorem fresh_arr (n b : Nat) : (#[.slice (some ⟨b, 0, none⟩) n n, .slice none 0 0, .int .i64 0, .int .i64 0, .int .i64 0, .int .i64 0, .int .i64 0, .int .i64 0, .int .i64 0, .int .i64 0] : Array Value) = (Mm.fresh (List.replicate n 0)).arr b := by
  simp [Mm.arr, Mm.fresh, ivals]
theorem built45 (v : Value) (A : Option Addr) (n c : Nat) (h : v = .slice A n c) : Try.prog.built 45 [(0, v)] = some #[.slice A n c, .slice none 0 0, .int .i64 0, .int .i64 0, .int .i64 0, .int .i64 0, .int .i64 0, .int .i64 0, .int .i64 0, .int .i64 0] := by
  subst h; kernel_rfl
theorem fresh_at0 (n b : Nat) : ((Mm.fresh (List.replicate n 0)).arr b)[0]? = some (.slice (some ⟨b, 0, none⟩) n n) := by rw [Mm.at0]; simp [Mm.fresh]
attribute [local irreducible] arrV Mm.arr
theorem fresh_len (xs ys : List Nat) (b : Nat) (h : xs.length = ys.length) : (Mm.fresh xs).arr b = (Mm.fresh ys).arr b := Mm.arr_len _ _ b h rfl rfl rfl rfl rfl
section
variable {w W : World} {L : List (Nat × TypeId × Array Value)}
theorem St.front2 {x y : Nat × TypeId × Array Value} (h : St w W (L ++ [y] ++ [x])) : St w W (x :: y :: L) := by
  refine h.perm ?_
  rw [List.append_assoc]
  refine List.perm_append_comm.trans ?_
  exact List.Perm.swap _ _ _
set_option maxHeartbeats 1000000 in
theorem new_nat (N n c : Nat) (s : Int) (A : Option Addr) (xs : List Nat) (h : St w W L) (hN : N ≤ 5000) (hs : s = (N : Int)) (hr : Row W W.heap.size A n c xs) :
    Calls Try.prog 7 #[.int .i64 s, .slice A n c] W fun e W' => ∃ g b, e = .returned (.pointer (some ⟨g, 0, none⟩)) ∧ St w W' ((g, 45, (Mm.fresh (over (List.replicate N 0) 0 (xs.take N))).arr b) :: (b, 5, arrV (over (List.replicate N 0) 0 (xs.take N))) :: L) := by
  have hlen := hr.len
  have HR := Lib.hid hr
  have EL : Hid ((over (List.replicate N 0) 0 (xs.take N)).length = (List.replicate N 0).length) := over_len _ _ _ (by simp; omega)
  clear hr hlen
  subst hs
  go_enter Try.func7, Try.ntmps7
  go_wp2_with (first
    | (refine wpList_makeB_st h _ _ rfl rfl N rfl rfl (by omega) ?_; clear h; intro W1 h1 b1)
    | (refine wpList_build_as 45 _ rfl rfl _ (built45 _ _ _ _ rfl) ?_)
    | (refine wpList_box_st h1 45 (.tmp 10) rfl rfl ((Mm.fresh (List.replicate N 0)).arr W.heap.size) (fresh_arr N W.heap.size) ?_; clear h1; intro W2 h2 _ b2; have h3 := St.front2 h2; clear h2; have c0 := h3.cell 0 rfl 0 _ (fresh_at0 N _))
    | (refine wpList_copyB_st h3 1 rfl (.tmp 15) (.tmp 16) rfl rfl 0 N N n c W.heap.size _ _ xs rfl rfl (HR.out.below (b1.trans (b2.mono b1.size))) (fun _ => rfl) (by rw [List.length_replicate, Nat.zero_add]; exact Nat.min_le_right _ _) ?_; clear h3; intro W3 h4 _))
  go_ret
  refine ⟨W1.heap.size, W.heap.size, rfl, ?_⟩
  rw [fresh_len _ _ _ EL.out]
  exact h4
set_option maxHeartbeats 1000000 in
theorem new_neg (N n c : Nat) (s : Int) (A : Option Addr) (xs : List Nat) (h : St w W L) (hN : N ≤ 5000) (hN0 : N = 0) (hs : s < 0) (hr : Row W W.heap.size A n c xs) :
    Calls Try.prog 7 #[.int .i64 s, .slice A n c] W fun e W' => ∃ g b, e = .returned (.pointer (some ⟨g, 0, none⟩)) ∧ St w W' ((g, 45, (Mm.fresh (over (List.replicate N 0) 0 (xs.take N))).arr b) :: (b, 5, arrV (over (List.replicate N 0) 0 (xs.take N))) :: L) := by
  have hlen := hr.len
  have HR := Lib.hid hr
  have EL : Hid ((over (List.replicate N 0) 0 (xs.take N)).length = (List.replicate N 0).length) := over_len _ _ _ (by simp; omega)
  clear hr hlen
  subst hN0
  go_enter Try.func7, Try.ntmps7
  go_wp2_with (first
    | (refine wpList_makeB_st h _ _ rfl rfl 0 rfl rfl (by omega) ?_; clear h; intro W1 h1 b1)
    | (refine wpList_build_as 45 _ rfl rfl _ (built45 _ _ _ _ rfl) ?_)
    | (refine wpList_box_st h1 45 (.tmp 10) rfl rfl ((Mm.fresh (List.replicate 0 0)).arr W.heap.size) (fresh_arr 0 W.heap.size) ?_; clear h1; intro W2 h2 _ b2; have h3 := St.front2 h2; clear h2; have c0 := h3.cell 0 rfl 0 _ (fresh_at0 0 _))
    | (refine wpList_copyB_st h3 1 rfl (.tmp 15) (.tmp 16) rfl rfl 0 0 0 n c W.heap.size _ _ xs rfl rfl (HR.out.below (b1.trans (b2.mono b1.size))) (fun _ => rfl) (by rw [List.length_replicate, Nat.zero_add]; exact Nat.min_le_right _ _) ?_; clear h3; intro W3 h4 _))
  go_ret
  refine ⟨W1.heap.size, W.heap.size, rfl, ?_⟩
  rw [fresh_len _ _ _ EL.out]
  exact h4
end
section
variable {w W : World} {L : List (Nat × TypeId × Array Value)} {g b : Nat} {m : Mm}
set_option maxHeartbeats 1000000 in
theorem tamper_drop (n a t2 : Int) (A : Option Addr) (k c : Nat) (hn : 0 ≤ n) (h : St w W ((g, 45, m.arr b) :: L)) (hm : m.Ok) :
    Calls Try.prog 8 #[.pointer (some ⟨g, 0, none⟩), .agg #[.int .i64 6, .int .i64 a, .int .i64 t2, .int .i64 n, .slice A k c]] W fun e W' => e = .returned (.int .i64 0) ∧ St w W' ((g, 45, ({ m with dr := n } : Mm).arr b) :: L) := by
  have D2 := Lib.hid (fun W M (h : St w W ((g, 45, m.arr b) :: M)) => drop_any n hn h hm)
  go_enter Try.func8, Try.ntmps8
  go_wp2_with (first
    | (refine wpList_box_st h 29 (.tmp 1) rfl rfl #[.int .i64 6, .int .i64 a, .int .i64 t2, .int .i64 n, .slice A k c] rfl ?_; clear h; intro W1 h1 _ _; have c0 := h1.cell (L.length + 1) (g := W.heap.size) (t := 29) (arr := #[.int .i64 6, .int .i64 a, .int .i64 t2, .int .i64 n, .slice A k c]) (by simp) 0 (.int .i64 6) rfl; have c3 := h1.cell (L.length + 1) (g := W.heap.size) (t := 29) (arr := #[.int .i64 6, .int .i64 a, .int .i64 t2, .int .i64 n, .slice A k c]) (by simp) 3 (.int .i64 n) rfl)
    | (go_at_call 20; refine (D2.out _ _ h1).mono ?_; rintro e W2 ⟨rfl, h2⟩))
  go_ret
  exact ⟨rfl, h2.sub (by simp)⟩
end
end Go.Proofs.Ytbmdkmnkbchokaa
