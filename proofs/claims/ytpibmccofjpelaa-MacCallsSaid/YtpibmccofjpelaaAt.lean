/- A list of marks gives a mark. No statement is proved here. -/
import Derived.Test.YtpibmccofjpelaaKinds
import Derived.Lib.ConvBytes
namespace Go.Proofs.Ytpibmccofjpelaa
open Go.RowKit Go.Maps
set_option linter.unusedVariables false
set_option linter.unusedSimpArgs false

theorem mvals_at (ms : List Mark) (i : Nat) (m : Mark) (h : ms[i]? = some m) : (mvals ms)[i * 2]? = some (.string (txt m.1)) ∧ (mvals ms)[i * 2 + 1]? = some (.int .u64 (m.2 : Int)) := by
  induction ms generalizing i with
  | nil => simp at h
  | cons y r ih =>
    cases i with
    | zero =>
      simp only [List.getElem?_cons_zero, Option.some.injEq] at h
      subst h
      exact ⟨rfl, rfl⟩
    | succ i =>
      simp only [List.getElem?_cons_succ] at h
      have := ih i h
      rw [show (i + 1) * 2 = i * 2 + 1 + 1 by omega, show i * 2 + 1 + 1 + 1 = (i * 2 + 1) + 1 + 1 by omega]
      simpa [mvals] using this
theorem MSt.at_ {V : World} {base gl : Nat} {sv : Value} {m1 m2 : Nat} {ms : List Mark} (h : MSt V base gl sv m1 m2 ms) {i : Nat} {m : Mark} (hm : ms[i]? = some m) : ∃ g c, sv = .slice (some ⟨g, 0, none⟩) ms.length c ∧ V.cell? ⟨g, i * 2, none⟩ = some (.string (txt m.1)) ∧ V.cell? ⟨g, i * 2 + 1, none⟩ = some (.int .u64 (m.2 : Int)) := by
  have hi : i < ms.length := by
    rcases Nat.lt_or_ge i ms.length with h1 | h1
    · exact h1
    · rw [List.getElem?_eq_none h1] at hm; cases hm
  rcases h.row.2 with ⟨_, h0⟩ | ⟨g, cap, cur, hv, _⟩
  · omega
  · subst hv
    have hp := mvals_at ms i m hm
    exact ⟨g, cap, rfl, (h.row.cellAt (i * 2) (by omega)).trans hp.1, (h.row.cellAt (i * 2 + 1) (by omega)).trans hp.2⟩
theorem sz67 : (Try.prog.info? 67).map (·.size) = some 2 := by kernel_rfl
/-- A mark's value. -/
abbrev mkV (s : Value) (t : Int) : Array Value := #[s, .int .u64 t]
theorem results_mark {fn : Func} {t1 : Tmp} (h : fn.results = #[.cell t1 67]) (tmps : Array Value) (W : World) (g : Nat) (hp : tmps.getD t1 undef = .pointer (some ⟨g, 0, none⟩)) (s : Value) (t : Int) (hg : W.heap[g]? = some (.cells (mkV s t) 67 (0, 0))) :
    (results fn tmps).run Try.prog W = .ok (.agg (mkV s t)) W := by
  have hp' : tmps[t1]?.getD undef = .pointer (some ⟨g, 0, none⟩) := by simpa using hp
  have hl := run_loadVar_row (P := Try.prog) W g 67 67 (mkV s t) (0, 0) _ hg Try.underlying67 rfl sz67
  simp [results, h, hp', asAddr, hl]
theorem wpList_store_mark {W : World} {g : Nat} {t t' : Int} {s s' : Value} {ops : Array Oper} {rest : List Oper} {o : Oper} {a : Act} {Q : Exit → Act → World → Prop} (h : W.heap[g]? = some (.cells (mkV s t) 67 (0, 0))) (u y : Operand) (ho : o.op = .store 67 u y) (hx : a.eval u = .pointer (some ⟨g, 0, none⟩)) (hw : Region.wanted o (yielded ops a.tmps) = true) (hy : a.eval y = .agg (mkV s' t')) (h1 : s'.oneCell' = true)
    (kk : wpList Try.prog ops Q rest (a.put o.dst undef) (W.setRow g (mkV s' t'))) : wpList Try.prog ops Q (o :: rest) a W := by
  unfold wpList
  rw [if_pos hw]
  exact .inl (wp_store_row 67 u y ho g (mkV s' t') hx hy 67 (mkV s t) h sz67 rfl (by simp [mkV, h1]; rfl) kk)
theorem row_bytes (W : World) (xs : List Nat) (hb : ∀ x ∈ xs, x < 256) (hn : xs.length ≤ 1000) : Row (Lib.bytesWorld W 5 (txt xs)) (W.heap.size + 1) (some ⟨W.heap.size, 0, none⟩) xs.length (grownCap W xs.length 0 5) xs := by
  refine ⟨rfl, hb, grownCap_ge _ _ _ _, grownCap_le_maxLen _ _ _ _ (by unfold maxLen; omega), (fun h => by cases h), fun a ha hn0 => ?_⟩
  injection ha with ha
  subst ha
  refine ⟨rfl, by simp, fun j hj => ?_⟩
  have := Lib.bytesWorld_cell W 5 (txt xs) j (by rw [txt_size]; exact hj)
  simp only [Nat.zero_add]
  rw [this]
  have hx : xs.getD j 0 < 256 := by
    rw [List.getD_eq_getElem?_getD, List.getElem?_eq_getElem hj]
    exact hb _ (List.getElem_mem hj)
  simp only [txt_list]
  simp [List.getD_eq_getElem?_getD, hj] at hx ⊢
  omega
set_option maxRecDepth 20000 in
set_option maxHeartbeats 1000000 in
theorem at_any (base gl : Nat) (sv : Value) (m1 m2 : Nat) (ms : List Mark) (N : Nat) (xs : List Nat) (t : Nat) (w : World) (h : MSt w base gl sv m1 m2 ms) (hm : ms[N]? = some (xs, t)) (hn : xs.length ≤ 1000) :
    Calls Try.prog 44 #[.pointer (some ⟨gl, 0, none⟩), .int .i64 ((N : Int) + 1)] w fun e w' => ∃ A c, e = .returned (.agg (mkV (.slice A xs.length c) (t : Nat))) ∧ Row w' w'.heap.size A xs.length c xs ∧ (∀ a, A = some a → w.heap.size ≤ a.block) ∧ Below w.heap.size w w' := by
  have hN : N < ms.length := by
    rcases Nat.lt_or_ge N ms.length with h1 | h1
    · exact h1
    · rw [List.getElem?_eq_none h1] at hm; cases hm
  have hfew := h.few
  have hB := (Below.refl w.heap.size w).alloc (Nat.le_refl _) (.cells #[.slice none 0 0, .int .u64 0] 67)
  have h' := h.below hB
  obtain ⟨g, c, rfl, e0, e1⟩ := h'.at_ hm
  have d0 := h'.c0
  have bx : ∀ x ∈ xs, x < 256 := (h.bytes (xs, t) (List.mem_of_getElem? hm)).1
  have HB := Lib.hid hB
  have cv : ∀ W : World, (convert 9 24 (.string (txt xs))).run Try.prog W = .ok (.slice (some ⟨W.heap.size, 0, none⟩) xs.length (grownCap W xs.length 0 5)) (Lib.bytesWorld W 5 (txt xs)) := fun W => by
    have := Lib.run_convert_string_bytes (P := Try.prog) W 9 24 5 (txt xs) Try.underlying9 Try.underlying24 Try.underlying5
    rw [txt_size] at this
    exact this
  have RB := Lib.hid (fun W => row_bytes W xs bx hn)
  have hr : Hid ((w.alloc (.cells (mkV (.slice none 0 0) 0) 67)).heap[w.heap.size]? = some (.cells (mkV (.slice none 0 0) 0) 67 (0, 0))) := heap_alloc_new w _
  have w1 : IntKind.i64.wrap ((N : Int) + 1 - 1) = (N : Int) := by rw [show (N : Int) + 1 - 1 = (N : Int) by omega]; exact IntWalk.i64_in _ (by omega)
  have g1 : ((N : Int) + 1 < 1) = False := eq_false (by omega)
  have g2 : ((ms.length : Int) < (N : Int) + 1) = False := eq_false (by omega)
  clear h h' hm hB bx
  generalize txt xs = T at *
  generalize ms.length = L at *
  have sV : ((w.alloc (.cells #[.slice none 0 0, .int .u64 0] 67)).alloc (.cells #[.string T, .int .u64 (t : Int)] 99)).heap.size = w.heap.size + 2 := by simp
  have y1 : (Lib.bytesWorld ((w.alloc (.cells #[.slice none 0 0, .int .u64 0] 67)).alloc (.cells #[.string T, .int .u64 (t : Int)] 99)) 5 T).cell? ⟨w.heap.size + 1, 1, none⟩ = some (.int .u64 (t : Int)) := by
    rw [Lib.bytesWorld_old _ 5 T _ (by rw [sV]; simp), cell_of_row _ (w.heap.size + 1) 1 _ _ _ (heap_alloc2_new w _ _)]; rfl
  have yb : Hid ((Lib.bytesWorld ((w.alloc (.cells #[.slice none 0 0, .int .u64 0] 67)).alloc (.cells #[.string T, .int .u64 (t : Int)] 99)) 5 T).heap[w.heap.size]? = some (.cells (mkV (.slice none 0 0) 0) 67 (0, 0))) := (Lib.bytesWorld_at_old _ 5 T _ (by rw [sV]; omega)).trans ((Below.heap_alloc _ _ _ (by simp)).trans (heap_alloc_new w _))
  have ybl : Hid (Below w.heap.size w (Lib.bytesWorld ((w.alloc (.cells #[.slice none 0 0, .int .u64 0] 67)).alloc (.cells #[.string T, .int .u64 (t : Int)] 99)) 5 T)) := ⟨rfl, rfl, rfl, by rw [Lib.bytesWorld_size, sV]; omega, fun k hk => (Lib.bytesWorld_at_old _ 5 T k (by rw [sV]; omega)).trans ((Below.heap_alloc _ _ _ (by simp; omega)).trans (Below.heap_alloc w _ _ hk))⟩
  have RW := Lib.hid (RB.out ((w.alloc (.cells #[.slice none 0 0, .int .u64 0] 67)).alloc (.cells #[.string T, .int .u64 (t : Int)] 99)))
  rw [sV] at RW
  have YS := Lib.hid (Lib.bytesWorld_size ((w.alloc (.cells #[.slice none 0 0, .int .u64 0] 67)).alloc (.cells #[.string T, .int .u64 (t : Int)] 99)) 5 T)
  rw [sV] at YS
  clear sV
  go_enter Try.func44, Try.ntmps44
  go_wp2_with (first
    | (refine wpList_store_mark yb.out _ _ rfl rfl rfl rfl rfl ?_))
  generalize Lib.bytesWorld ((w.alloc (.cells #[.slice none 0 0, .int .u64 0] 67)).alloc (.cells #[.string T, .int .u64 (t : Int)] 99)) 5 T = Y at *
  generalize grownCap ((w.alloc (.cells #[.slice none 0 0, .int .u64 0] 67)).alloc (.cells #[.string T, .int .u64 (t : Int)] 99)) xs.length 0 5 = cap at *
  refine bodyPost_ret (results_mark Try.results44 _ _ w.heap.size rfl (.slice (some ⟨w.heap.size + 1 + 1, 0, none⟩) xs.length cap) (t : Int) ?_) rfl ⟨_, _, rfl, ?_, ?_, ?_⟩
  · have := yb.out
    simp [World.setRow, Array.getElem?_modify, this]
  · have hs : (Y.setRow w.heap.size (mkV (.slice (some ⟨w.heap.size + 1 + 1, 0, none⟩) xs.length cap) (t : Int))).heap.size = w.heap.size + 2 + 1 := by simp [World.setRow]; exact YS.out
    rw [hs]
    obtain ⟨r1, r2, r3, r4, r5, r6⟩ := RW.out
    refine ⟨r1, r2, r3, r4, r5, fun a ha hn => ?_⟩
    obtain ⟨q1, q2, q3⟩ := r6 a ha hn
    refine ⟨q1, q2, fun j hj => ?_⟩
    injection ha with ha
    subst ha
    rw [← q3 j hj]
    exact World.cell?_of_block (heap_setRow_far _ _ _ _ (by show ¬ (w.heap.size + 1 + 1 = w.heap.size); omega))
  · intro a ha
    injection ha with ha
    subst ha
    simp
    omega
  · exact ybl.out.trans ⟨rfl, rfl, rfl, by simp [World.setRow], fun i hi => heap_setRow_far _ _ i _ (by omega)⟩
end Go.Proofs.Ytpibmccofjpelaa
