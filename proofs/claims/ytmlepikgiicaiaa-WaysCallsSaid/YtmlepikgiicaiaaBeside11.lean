/- A cache and the document's, beside each other. No statement is proved here. -/
import Derived.Test.YtmlepikgiicaiaaRelPlain
namespace Go.Proofs.Ytmlepikgiicaiaa
open Go.RowKit
set_option linter.unusedVariables false
set_option linter.unusedSimpArgs false

/-- A cache (blocks g, b) and the document's (block gr); L: the other blocks. -/
def WR (w W : World) (g b S N : Nat) (cc : Cs) (gr : Nat) (l : List Ent) (L : Blks) : Prop :=
  ∃ Y : Blks, WC w W g b N cc (Y ++ L) ∧ ∀ W' M, St w W' (Y ++ M) → RC w W' gr S N l M
section
variable {w W W' : World} {g b S N gr : Nat} {cc cc' : Cs} {l l' : List Ent} {L M : Blks} {k : Int}
theorem WR.of (h : WC w W g b N cc L) : ∃ Y : Blks, St w W (Y ++ L) ∧ ∀ W' gr S l, RC w W' gr S N l (Y ++ L) → WR w W' g b S N cc gr l L := by
  obtain ⟨Y, _, _, hs, up⟩ := h.lift
  refine ⟨Y, hs, fun W' gr S l h' => ?_⟩
  obtain ⟨Y2, hs2, up2⟩ := h'.lift
  exact ⟨Y2, up _ _ (hs2.perm (List.perm_append_comm_assoc Y2 Y L)), up2⟩
theorem WR.prog (h : WR w W g b S N cc gr l L) : ∃ X, WC w W g b N cc X ∧ ∀ W' cc' M, WC w W' g b N cc' (M ++ X) → WR w W' g b S N cc' gr l (M ++ L) := by
  obtain ⟨Y, h1, up⟩ := h
  exact ⟨_, h1, fun W' cc' M h' => ⟨Y, h'.perm (List.perm_append_comm_assoc M Y L), up⟩⟩
theorem WR.doc (h : WR w W g b S N cc gr l L) : ∃ X, RC w W gr S N l X ∧ ∀ W' l' M, RC w W' gr S N l' (M ++ X) → WR w W' g b S N cc gr l' (M ++ L) := by
  obtain ⟨Y, h1, up⟩ := h
  obtain ⟨Y1, _, _, hs, up1⟩ := h1.lift
  refine ⟨Y1 ++ L, up _ _ (hs.perm (List.perm_append_comm_assoc Y1 Y L)), fun W' l' M h' => ?_⟩
  obtain ⟨Y2, hs2, up2⟩ := h'.lift
  refine ⟨Y2, up1 _ _ (hs2.perm ?_), up2⟩
  refine (List.Perm.append_left Y2 (List.perm_append_comm_assoc M Y1 L)).trans ?_
  exact List.perm_append_comm_assoc Y2 Y1 (M ++ L)
theorem WR.call (h : WR w W g b S N cc gr l L) (hb : Below W.heap.size W W') : WR w W' g b S N cc gr l L := by
  obtain ⟨X, h1, up⟩ := h.prog
  exact up W' cc [] (h1.call hb)
theorem WR.drewN (h : WR w W g b S N cc gr l L) (j : Nat) : WR w (W.drewN j) g b S N cc gr l L := by
  obtain ⟨X, h1, up⟩ := h.prog
  exact up _ cc [] (h1.drewN j)
theorem WR.st (h : WR w W g b S N cc gr l L) : St w W L := by
  obtain ⟨Y, h1, _⟩ := h
  exact h1.st.sub (List.sublist_append_right Y L)
theorem WR.bel (h : WR w W g b S N cc gr l L) : Below w.heap.size w W := h.st.bel
theorem WR.cell (h : WR w W g b S N cc gr l L) (i : Nat) {q : Nat} {t : TypeId} {arr : Array Value} (hi : L[i]? = some (q, C t arr)) (j : Nat) (v : Value) (hv : arr[j]? = some v) : W.cell? ⟨q, j, none⟩ = some v := h.st.cell i hi j v hv
theorem WR.sub (h : WR w W g b S N cc gr l L) (hs : M.Sublist L) : WR w W g b S N cc gr l M := by
  obtain ⟨Y, h1, up⟩ := h
  exact ⟨Y, h1.sub (hs.append_left Y), up⟩
theorem wr_set (h : WR w W g b S N cc gr l L) (hR : Rel S N cc l) (v : Int) (hk : k ≤ 9223372036854775807) (hn : N ≤ 64) : Calls Try.prog 10 #[.pointer (some ⟨g, 0, none⟩), .int .i64 k, .int .i64 v] W fun e W' => e = .returned (.int .i64 (setK N cc k)) ∧ WR w W' g b S N (setC N cc k v) gr l L := by
  obtain ⟨X, h1, up⟩ := h.prog
  refine (set_any h1 k v hk hn (drop_len hR.inv hn k)).mono ?_
  rintro e W' ⟨rfl, h2⟩
  exact ⟨rfl, up _ _ [] h2⟩
theorem wr_drop (h : WR w W g b S N cc gr l L) (hk : k ≤ 9223372036854775807) : Calls Try.prog 12 #[.pointer (some ⟨g, 0, none⟩), .int .i64 k] W fun e W' => e = .returned (.bool (getO cc k)) ∧ WR w W' g b S N (dropC cc k) gr l L := by
  obtain ⟨X, h1, up⟩ := h.prog
  refine (drop_any h1 k hk).mono ?_
  rintro e W' ⟨rfl, h2⟩
  exact ⟨rfl, up _ _ [] h2⟩
theorem wr_touch (h : WR w W g b S N cc gr l L) (hR : Rel S N cc l) (hk : k ≤ 9223372036854775807) (hn : N ≤ 64) : Calls Try.prog 14 #[.pointer (some ⟨g, 0, none⟩), .int .i64 k] W fun e W' => e = .returned (.bool (getO cc k)) ∧ WR w W' g b S N (touchC cc k) gr l L := by
  obtain ⟨X, h1, up⟩ := h.prog
  refine (touch_any h1 k hk hn (drop_len hR.inv hn k)).mono ?_
  rintro e W' ⟨rfl, h2⟩
  exact ⟨rfl, up _ _ [] h2⟩
theorem wr_get (h : WR w W g b S N cc gr l L) (hk : k ≤ 9223372036854775807) : Calls Try.prog 16 #[.pointer (some ⟨g, 0, none⟩), .int .i64 k] W fun e W' => e = .returned (.tuple #[.int .i64 (getV cc k), .bool (getO cc k)]) ∧ WR w W' g b S N cc gr l L := by
  obtain ⟨X, h1, up⟩ := h.prog
  refine (get_any h1 k hk).mono ?_
  rintro e W' ⟨rfl, hb⟩
  exact ⟨rfl, h.call hb⟩
theorem wr_room (h : WR w W g b S N cc gr l L) (hk : k ≤ 9223372036854775807) (hn : N ≤ 64) : Calls Try.prog 23 #[.pointer (some ⟨g, 0, none⟩), .int .i64 k] W fun e W' => e = .returned (.bool (room N cc k)) ∧ WR w W' g b S N cc gr l L := by
  obtain ⟨X, h1, up⟩ := h.prog
  refine (room_any h1 k hk hn).mono ?_
  rintro e W' ⟨rfl, hb⟩
  exact ⟨rfl, h.call hb⟩
theorem rl_iarr (bk : Nat) (xs : List Int) (h : xs.length ≤ 100000) : RL (.slice (some ⟨bk, 0, none⟩) xs.length xs.length) xs [(bk, C 3 (iarr xs))] := by
  refine .inr ⟨bk, xs.length, iarr xs, rfl, rfl, Nat.le_refl _, by unfold maxLen; omega, ?_, ?_⟩
  · show _ = xs.length * 1
    rw [iarr_size, Nat.mul_one]
  · show (iarr xs).toList.take (xs.length * 1) = ecells xs
    rw [ecells_int, Nat.mul_one]
    unfold iarr
    rw [List.toList_toArray, List.take_of_length_le (by simp)]
theorem wr_oldest (h : WR w W g b S N cc gr l L) (hk : k ≤ 9223372036854775807) (hl : (sof cc k).length ≤ 1000) : Calls Try.prog 19 #[.pointer (some ⟨g, 0, none⟩), .int .i64 k] W fun e W' => ∃ v M, e = .returned v ∧ RL v (ks (sof cc k)) M ∧ WR w W' g b S N cc gr l (M ++ L) := by
  obtain ⟨X, h1, up⟩ := h.prog
  refine (oldest_any h1 k hk hl).mono ?_
  rintro e W' ⟨bk, rfl, h2⟩
  have := rl_iarr bk (ks (sof cc k)) (by rw [ks_length]; omega)
  rw [ks_length] at this
  exact ⟨_, [(bk, C 3 (iarr (ks (sof cc k))))], rfl, this, up _ _ [_] h2⟩
theorem wr_keys (h : WR w W g b S N cc gr l L) (hle : ∀ xs ∈ cc, xs.length ≤ 64) : Calls Try.prog 21 #[.pointer (some ⟨g, 0, none⟩)] W fun e W' => ∃ v M, e = .returned v ∧ RL v (srt (allK cc)) M ∧ WR w W' g b S N cc gr l (M ++ L) := by
  obtain ⟨X, h1, up⟩ := h.prog
  refine (keysall_any h1 hle).mono ?_
  rintro e W' ⟨v, M, rfl, hr, h2⟩
  exact ⟨v, M, rfl, hr, up _ _ M h2⟩
theorem dr_set (h : WR w W g b S N cc gr l L) (hR : Rel S N cc' l) (v : Int) (hk : k ≤ 9223372036854775807) (hS : 1 ≤ S) (hS2 : S ≤ 64) (hl : l.length ≤ 1000) : Calls Try.prog 11 #[.pointer (some ⟨gr, 0, none⟩), .int .i64 k, .int .i64 v] W fun e W' => e = .returned (.int .i64 (roomR S N l k)) ∧ WR w W' g b S N cc gr (if roomR S N l k = 0 then dropR l k ++ [⟨k, v⟩] else l) L := by
  obtain ⟨X, h1, up⟩ := h.doc
  refine (rset_any h1 k v hk hR.k0 hS hS2 hl).mono ?_
  rintro e W' ⟨rfl, h2⟩
  exact ⟨rfl, up _ _ [] h2⟩
theorem dr_drop (h : WR w W g b S N cc gr l L) (hl : l.length ≤ 1000) : Calls Try.prog 13 #[.pointer (some ⟨gr, 0, none⟩), .int .i64 k] W fun e W' => e = .returned (.bool (fnd l k).isSome) ∧ WR w W' g b S N cc gr (dropR l k) L := by
  obtain ⟨X, h1, up⟩ := h.doc
  refine (rdrop_any h1 k hl).mono ?_
  rintro e W' ⟨rfl, h2⟩
  exact ⟨rfl, up _ _ [] h2⟩
theorem dr_touch (h : WR w W g b S N cc gr l L) (hl : l.length ≤ 1000) : Calls Try.prog 15 #[.pointer (some ⟨gr, 0, none⟩), .int .i64 k] W fun e W' => e = .returned (.bool (fnd l k).isSome) ∧ WR w W' g b S N cc gr (match fnd l k with | some i => dropR l k ++ [l.getD i default] | none => l) L := by
  obtain ⟨X, h1, up⟩ := h.doc
  refine (rtouch_any h1 k hl).mono ?_
  rintro e W' ⟨rfl, h2⟩
  exact ⟨rfl, up _ _ [] h2⟩
theorem dr_find (h : WR w W g b S N cc gr l L) (k : Int) : Calls Try.prog 17 #[.pointer (some ⟨gr, 0, none⟩), .int .i64 k] W fun e W' => e = .returned (.int .i64 (fndV l k)) ∧ W' = W := by
  obtain ⟨X, h1, up⟩ := h.doc
  exact rfind_any h1 k
theorem dr_oldest (h : WR w W g b S N cc gr l L) (hR : Rel S N cc' l) (hk : k ≤ 9223372036854775807) (hS : 1 ≤ S) (hS2 : S ≤ 64) (hl : l.length ≤ 1000) : Calls Try.prog 20 #[.pointer (some ⟨gr, 0, none⟩), .int .i64 k] W fun e W' => ∃ v M, e = .returned v ∧ RL v (oldR S l k) M ∧ WR w W' g b S N cc gr l (M ++ L) := by
  obtain ⟨X, h1, up⟩ := h.doc
  refine (roldest_any h1 k hk hR.k0 hS hS2 hl).mono ?_
  rintro e W' ⟨v, M, rfl, hr, h2⟩
  exact ⟨v, M, rfl, hr, up _ _ M h2⟩
theorem dr_keys (h : WR w W g b S N cc gr l L) (hl : l.length ≤ 1000) : Calls Try.prog 22 #[.pointer (some ⟨gr, 0, none⟩)] W fun e W' => ∃ v M out, e = .returned v ∧ RL v out M ∧ out.Pairwise (· ≤ ·) ∧ out.Perm (l.map (·.k)) ∧ WR w W' g b S N cc gr l (M ++ L) := by
  obtain ⟨X, h1, up⟩ := h.doc
  refine (rkeys_any h1 hl).mono ?_
  rintro e W' ⟨v, M, out, rfl, hr, h3, h4, h2⟩
  exact ⟨v, M, out, rfl, hr, h3, h4, up _ _ M h2⟩
theorem dr_room (h : WR w W g b S N cc gr l L) (hR : Rel S N cc' l) (hk : k ≤ 9223372036854775807) (hS : 1 ≤ S) (hS2 : S ≤ 64) (hl : l.length ≤ 1000) : Calls Try.prog 24 #[.pointer (some ⟨gr, 0, none⟩), .int .i64 k] W fun e W' => e = .returned (.int .i64 (roomR S N l k)) ∧ WR w W' g b S N cc gr l L := by
  obtain ⟨X, h1, up⟩ := h.doc
  refine (rroom_any h1 k hk hR.k0 hS hS2 hl).mono ?_
  rintro e W' ⟨rfl, h2⟩
  exact ⟨rfl, up _ _ [] h2⟩
theorem WR.list (h : WR w W g b S N cc gr l L) : ∃ A p, W.cell? ⟨gr, 2, none⟩ = some (.slice A l.length p) ∧ ERow W W.heap.size A l.length p (l.map toP) := by
  obtain ⟨X, h1, _⟩ := h.doc
  obtain ⟨A, p, _, _, c2, hr⟩ := h1.open_
  exact ⟨A, p, c2, hr⟩
theorem same_rows {v1 v2 : Value} {xs ys : List Int} {M1 M2 L1 L2 : Blks} (h1 : RL v1 xs M1) (h2 : RL v2 ys M2) (hs1 : St w W (M1 ++ L1)) (hs2 : St w W (M2 ++ L2)) (e : xs = ys) : Calls Try.prog 18 #[v1, v2] W fun e w' => e = .returned (.bool true) ∧ ∃ j, w' = W.drewN j := by
  subst e
  obtain ⟨A1, c1, rfl, _⟩ := h1.form
  obtain ⟨A2, c2, rfl, _⟩ := h2.form
  have := same_any _ _ _ _ _ _ _ _ xs xs W (h1.row hs1 rfl) (h2.row hs2 rfl)
  rwa [decide_eq_true rfl] at this
end
section
variable {w W : World} {g b S N gr : Nat} {cc : Cs} {l : List Ent} {L : Blks} {ops : Array Oper} {rest : List Oper} {o : Oper} {a : Act} {Q : Exit → Act → World → Prop}
theorem wpList_alloc_wr (h : WR w W g b S N cc gr l L) (ty : TypeId) (ho : o.op = .alloc ty) (hw : Region.wanted o (yielded ops a.tmps) = true) (v : Value) (arr : Array Value) (hz : ∀ W, (zeroValue ty).run Try.prog W = .ok v W) (hx : v.cells = arr)
    (k : ∀ W', WR w W' g b S N cc gr l ((W.heap.size, C ty arr) :: L) → wpList Try.prog ops Q rest (a.put o.dst (.pointer (some ⟨W.heap.size, 0, none⟩))) W') : wpList Try.prog ops Q (o :: rest) a W := by
  obtain ⟨X, h1, up⟩ := h.prog
  exact wpList_alloc_wc h1 ty ho hw v arr hz hx fun W' h' _ => k W' (up _ _ [_] h')
theorem wpList_store_wr {q : Nat} {t : TypeId} {arr arr' : Array Value} (h : WR w W g b S N cc gr l ((q, C t arr) :: L)) (ty : TypeId) (x y : Operand) (ho : o.op = .store ty x y) (hw : Region.wanted o (yielded ops a.tmps) = true)
    (hx : a.eval x = .pointer (some ⟨q, 0, none⟩)) (hy : a.eval y = .agg arr') (hs : (Try.prog.info? ty).map (·.size) = some arr'.size) (hl : arr'.size = arr.size) (h1 : arr'.all (·.oneCell') = true)
    (k : ∀ W', WR w W' g b S N cc gr l ((q, C t arr') :: L) → wpList Try.prog ops Q rest (a.put o.dst undef) W') : wpList Try.prog ops Q (o :: rest) a W := by
  obtain ⟨Y, h2, up⟩ := h
  exact wpList_store_wc (h2.perm List.perm_middle) ty x y ho hw hx hy hs hl h1 fun W' h' => k W' ⟨Y, h'.perm List.perm_middle.symm, up⟩
end
end Go.Proofs.Ytmlepikgiicaiaa
