/- For every input the law AesUnlike returns true. No condition. -/
import Derived.Test.YtmmfigdmdamnlabInj
namespace Go.Proofs.Ytmmfigdmdamnlab
open Go.RowKit
set_option linter.unusedVariables false
set_option linter.unusedSimpArgs false

/-- The blocks that came in. -/
structure UI (w : World) (key a b : List Nat) (V : World) : Prop where
  hk : Blk V w.heap.size 27 key
  ha : Blk V (w.heap.size + 1) 27 a
  hb : Blk V (w.heap.size + 1 + 1) 27 b
  hw : Below w.heap.size w V
theorem UI.call {w : World} {key a b : List Nat} {V V2 : World} (h : UI w key a b V) (hb : Below V.heap.size V V2) : UI w key a b V2 := ⟨h.hk.below hb h.hk.lt, h.ha.below hb h.ha.lt, h.hb.below hb h.hb.lt, h.hw.trans (hb.mono h.hw.size)⟩
theorem UI.start (w : World) (key a b : List Nat) : UI w key a b (((w.alloc (.cells (arrV key) 27)).alloc (.cells (arrV a) 27)).alloc (.cells (arrV b) 27)) := by
  have e1 : (w.alloc (.cells (arrV key) 27)).heap.size = w.heap.size + 1 := by simp
  have e2 : ((w.alloc (.cells (arrV key) 27)).alloc (.cells (arrV a) 27)).heap.size = w.heap.size + 1 + 1 := by simp
  have h1 := Blk.new (w.alloc (.cells (arrV key) 27)) 27 a
  have h2 := Blk.new ((w.alloc (.cells (arrV key) 27)).alloc (.cells (arrV a) 27)) 27 b
  rw [e1] at h1
  rw [e2] at h2
  exact ⟨((Blk.new w 27 key).alloc _).alloc _, h1.alloc _, h2, (((Below.refl _ _).alloc (Nat.le_refl _) _).alloc (by simp) _).alloc (by simp; omega) _⟩
/-- A new block that is written whole. -/
theorem below_new (W : World) (ys : List Nat) : Below W.heap.size W ((W.alloc (.cells (arrV zeros16) 27)).setCells W.heap.size 0 (vals ys)) := below_setCells ((Below.refl _ _).alloc (Nat.le_refl _) _) (Nat.le_refl _) _ _
theorem blk_new (W : World) (ys : List Nat) (h : ys.length = 16) : Blk ((W.alloc (.cells (arrV zeros16) 27)).setCells W.heap.size 0 (vals ys)) W.heap.size 27 ys := (Blk.new W 27 zeros16).storeAll (by rw [h]; rfl)

structure US (w : World) (key a b X Y : List Nat) (g bx by_ : Nat) (V : World) : Prop where
  ui : UI w key a b V
  hc : Blk V g 49 (cells key)
  hx : Blk V bx 27 X
  hy : Blk V by_ 27 Y
theorem US.call {w : World} {key a b X Y : List Nat} {g bx by_ : Nat} {V V2 : World} (h : US w key a b X Y g bx by_ V) (hb : Below V.heap.size V V2) : US w key a b X Y g bx by_ V2 := ⟨h.ui.call hb, h.hc.below hb h.hc.lt, h.hx.below hb h.hx.lt, h.hy.below hb h.hy.lt⟩
theorem US.drew {w : World} {key a b X Y : List Nat} {g bx by_ : Nat} {V : World} (h : US w key a b X Y g bx by_ V) : US w key a b X Y g bx by_ V.drew := ⟨⟨h.ui.hk, h.ui.ha, h.ui.hb, h.ui.hw.drew⟩, h.hc, h.hx, h.hy⟩
theorem eqlL (xs ys : List Nat) (hx : xs.length = 16) (hy : ys.length = 16) (bx : ∀ x ∈ xs, x < 256) (by_ : ∀ x ∈ ys, x < 256) (w : World) :
    (binOp .eql 27 (.agg (vals xs).toArray) (.agg (vals ys).toArray)).run Try.prog w = .ok (.bool (decide (xs = ys))) w := eql_block xs ys hx hy bx by_ w
theorem eqlS (xs : List Nat) (hx : xs.length = 16) (bx : ∀ x ∈ xs, x < 256) (w : World) :
    (binOp .eql 27 (.agg (vals xs).toArray) (.agg (vals xs).toArray)).run Try.prog w = .ok (.bool true) w := by rw [eqlL xs xs hx hx bx bx, decide_eq_true rfl]

set_option maxRecDepth 20000 in
set_option maxHeartbeats 1000000 in
theorem unlike_any (key a b : List Nat) (lk : key.length = 16) (bk : ∀ x ∈ key, x < 256) (la : a.length = 16) (ba : ∀ x ∈ a, x < 256) (lb : b.length = 16) (bb : ∀ x ∈ b, x < 256) (w : World) : Calls Try.prog 6 #[.agg (arrV key), .agg (arrV a), .agg (arrV b)] w fun e w' => e = .returned (.bool true) ∧ Below w.heap.size w w' := by
  have NW := Lib.hid (fun W => new_any key W lk bk)
  have EN := Lib.hid (fun g W (h : Blk W g 49 (cells key)) xs (lx : xs.length = 16) (bx : ∀ x ∈ xs, x < 256) => encrypt_any g (cells key) W h (cells_length key lk bk) (cells_lt key lk bk) xs lx bx)
  have OA := Lib.hid (enc_ok key a lk bk la ba)
  have OB := Lib.hid (enc_ok key b lk bk lb bb)
  have IJ := Lib.hid (enc_inj key a b lk bk la lb ba bb)
  have EA := Lib.hid (fun g W h => EN.out g W h a la ba)
  have EB := Lib.hid (fun g W h => EN.out g W h b lb bb)
  have LA := Lib.hid la
  have LB := Lib.hid lb
  have LK := Lib.hid lk
  have BA := Lib.hid ba
  have BB := Lib.hid bb
  have EAL : Hid (∀ (g : Nat) (W : World), Blk W g 49 (cells key) → Calls Try.prog 17 #[.pointer (some ⟨g, 0, none⟩), .agg (vals a).toArray] W (GivesL W (enc (cells key) a))) := EA.out
  have EBL : Hid (∀ (g : Nat) (W : World), Blk W g 49 (cells key) → Calls Try.prog 17 #[.pointer (some ⟨g, 0, none⟩), .agg (vals b).toArray] W (GivesL W (enc (cells key) b))) := EB.out
  have NWL : Hid (∀ W : World, Calls Try.prog 15 #[.agg (vals key).toArray] W (GivesCipher W key)) := NW.out
  clear EN
  generalize hX : enc (cells key) a = X at *
  generalize hY : enc (cells key) b = Y at *
  have XA := Lib.hid hX
  have YB := Lib.hid hY
  clear hX hY
  clear la lb lk bk ba bb
  go_enter Try.func6, Try.ntmps6
  go_wp2_with (first
    | (refine wpList_store_mid rfl 27 _ _ rfl W5.heap.size 0 (arrV Y) rfl rfl (by rw [arrV_size, OB.out.1]; exact (Blk.new W5 27 zeros16).there 0 16 (by simp [zeros16])) (by rw [arrV_size, OB.out.1]; exact size27) (arrV_all _) ?_; rw [arrV_toList]; have i8 : Below W5.heap.size W5 ((W5.alloc (.cells #[.int .u8 0, .int .u8 0, .int .u8 0, .int .u8 0, .int .u8 0, .int .u8 0, .int .u8 0, .int .u8 0, .int .u8 0, .int .u8 0, .int .u8 0, .int .u8 0, .int .u8 0, .int .u8 0, .int .u8 0, .int .u8 0] 27)).setCells W5.heap.size 0 (vals Y)) := below_new W5 Y; have i9 : Blk ((W5.alloc (.cells #[.int .u8 0, .int .u8 0, .int .u8 0, .int .u8 0, .int .u8 0, .int .u8 0, .int .u8 0, .int .u8 0, .int .u8 0, .int .u8 0, .int .u8 0, .int .u8 0, .int .u8 0, .int .u8 0, .int .u8 0, .int .u8 0] 27)).setCells W5.heap.size 0 (vals Y)) W5.heap.size 27 Y := blk_new W5 Y OB.out.1; obtain ⟨V6, hV6⟩ : ∃ V, (W5.alloc (.cells #[.int .u8 0, .int .u8 0, .int .u8 0, .int .u8 0, .int .u8 0, .int .u8 0, .int .u8 0, .int .u8 0, .int .u8 0, .int .u8 0, .int .u8 0, .int .u8 0, .int .u8 0, .int .u8 0, .int .u8 0, .int .u8 0] 27)).setCells W5.heap.size 0 (vals Y) = V := ⟨_, rfl⟩; rw [hV6] at i8 i9; have J6 := Lib.hid (J5.out.call i8); have C6 := Lib.hid (C5.out.below i8 C5.out.lt); have X6 := Lib.hid (X5.out.below i8 X5.out.lt); have Y6 := Lib.hid i9; clear i8 i9; rw [hV6]; clear hV6)
    | (go_at_call 17; have _ := X4; refine (EB.out g _ C4.out).mono ?_; rintro e W5 ⟨rfl, hb4⟩; have J5 := Lib.hid (J4.out.call hb4); have C5 := Lib.hid (C4.out.below hb4 C4.out.lt); have X5 := Lib.hid (X4.out.below hb4 X4.out.lt); clear hb4)
    | (refine wpList_load_mid rfl 27 _ rfl (w.heap.size + 1 + 1) 0 rfl (vals b) _ (whole_range J4.out.hb LB.out) Try.underlying27 rfl (sz16 b LB.out) ?_)
    | (refine wpList_store_mid rfl 27 _ _ rfl W4.heap.size 0 (arrV X) rfl rfl (by rw [arrV_size, OA.out.1]; exact (Blk.new W4 27 zeros16).there 0 16 (by simp [zeros16])) (by rw [arrV_size, OA.out.1]; exact size27) (arrV_all _) ?_; rw [arrV_toList]; have i8 : Below W4.heap.size W4 ((W4.alloc (.cells #[.int .u8 0, .int .u8 0, .int .u8 0, .int .u8 0, .int .u8 0, .int .u8 0, .int .u8 0, .int .u8 0, .int .u8 0, .int .u8 0, .int .u8 0, .int .u8 0, .int .u8 0, .int .u8 0, .int .u8 0, .int .u8 0] 27)).setCells W4.heap.size 0 (vals X)) := below_new W4 X; have i9 : Blk ((W4.alloc (.cells #[.int .u8 0, .int .u8 0, .int .u8 0, .int .u8 0, .int .u8 0, .int .u8 0, .int .u8 0, .int .u8 0, .int .u8 0, .int .u8 0, .int .u8 0, .int .u8 0, .int .u8 0, .int .u8 0, .int .u8 0, .int .u8 0] 27)).setCells W4.heap.size 0 (vals X)) W4.heap.size 27 X := blk_new W4 X OA.out.1; obtain ⟨V4, hV4⟩ : ∃ V, (W4.alloc (.cells #[.int .u8 0, .int .u8 0, .int .u8 0, .int .u8 0, .int .u8 0, .int .u8 0, .int .u8 0, .int .u8 0, .int .u8 0, .int .u8 0, .int .u8 0, .int .u8 0, .int .u8 0, .int .u8 0, .int .u8 0, .int .u8 0] 27)).setCells W4.heap.size 0 (vals X) = V := ⟨_, rfl⟩; rw [hV4] at i8 i9; have J4 := Lib.hid (J3b.out.call i8); have C4 := Lib.hid (C3b.out.below i8 C3b.out.lt); have X4 := Lib.hid i9; clear i8 i9; rw [hV4]; clear hV4)
    | (go_at_call 17; refine (EA.out g _ C3.out).mono ?_; rintro e W4 ⟨rfl, hb3⟩; have J3b := Lib.hid (J3.out.call hb3); have C3b := Lib.hid (C3.out.below hb3 C3.out.lt); clear hb3)
    | (refine wpList_load_mid rfl 27 _ rfl (w.heap.size + 1) 0 rfl (vals a) _ (whole_range J3.out.ha LA.out) Try.underlying27 rfl (sz16 a LA.out) ?_)
    | (go_at_call 15; refine (NW.out _).mono ?_; rintro e W3 ⟨g, rfl, hg, hcip, hb2⟩; have J3 := Lib.hid (J2.out.call hb2); have C3 := Lib.hid hcip; clear hb2 hcip hg)
    | (refine wpList_load_mid rfl 27 _ rfl w.heap.size 0 rfl (vals key) _ (whole_range J2.out.hk LK.out) Try.underlying27 rfl (sz16 key LK.out) ?_)
    | (go_at_call 9; refine (speaks_any _).mono ?_; rintro e W2 ⟨rfl, hb1⟩; have J2 := Lib.hid ((UI.start w key a b).call hb1); clear hb1)
    | fail)
  next =>
    have H0 : Hid (US w key a b X Y g W4.heap.size W5.heap.size V6.drew) := US.drew ⟨J6.out, C6.out, X6.out, Y6.out⟩
    have Q1 := eqlL X Y OA.out.1 OB.out.1 OA.out.2 OB.out.2
    have Q2 := eqlL a b LA.out LB.out BA.out BB.out
    have Q3 := eqlS X OA.out.1 OA.out.2
    have Q4 := eqlS Y OB.out.1 OB.out.2
    have QQ : (decide (X = Y) == decide (a = b)) = true := by
      by_cases e : a = b
      · have e2 : X = Y := by rw [← XA.out, ← YB.out, e]
        rw [decide_eq_true e, decide_eq_true e2]; rfl
      · have e2 : ¬ X = Y := fun h => e (IJ.out h)
        rw [decide_eq_false e, decide_eq_false e2]; rfl
    refine wp_region_held_drew (S := fun W => US w key a b X Y g W4.heap.size W5.heap.size W) (by kernel_rfl) H0.out (fun _ => ?_)
    refine wpAnyH_take (i := 0) rfl (by kernel_rfl) (by kernel_rfl) (by kernel_rfl) (fun _ _ _ h => h) (yieldsIf_load_mid (by rfl) _ _ rfl _ _ rfl _ _ (fun W hW => whole_range hW.hx OA.out.1) Try.underlying27 rfl (sz16 X OA.out.1)) H0.out ?_
    try simp only [Act.put, List.getElem_toArray, List.getElem_cons_succ, List.getElem_cons_zero, List.setIfInBounds_toArray, List.set_cons_zero, List.set_cons_succ]
    refine wpAnyH_take (i := 1) rfl (by kernel_rfl) (by kernel_rfl) (by kernel_rfl) (fun _ _ _ h => h) (yieldsIf_load_mid (by rfl) _ _ rfl _ _ rfl _ _ (fun W hW => whole_range hW.hy OB.out.1) Try.underlying27 rfl (sz16 Y OB.out.1)) H0.out ?_
    try simp only [Act.put, List.getElem_toArray, List.getElem_cons_succ, List.getElem_cons_zero, List.setIfInBounds_toArray, List.set_cons_zero, List.set_cons_succ]
    refine wpAnyH_take (i := 2) (v := .bool (decide (X = Y))) rfl (by kernel_rfl) (by kernel_rfl) (by kernel_rfl) (fun _ _ _ h => h) (Or.inl ⟨by rfl, fun W hW => by clear hW; go_simp⟩) H0.out ?_
    try simp only [Act.put, List.getElem_toArray, List.getElem_cons_succ, List.getElem_cons_zero, List.setIfInBounds_toArray, List.set_cons_zero, List.set_cons_succ]
    refine wpAnyH_take (i := 3) rfl (by kernel_rfl) (by kernel_rfl) (by kernel_rfl) (fun _ _ _ h => h) (yieldsIf_load_mid (by rfl) _ _ rfl _ _ rfl _ _ (fun W hW => whole_range hW.ui.ha LA.out) Try.underlying27 rfl (sz16 a LA.out)) H0.out ?_
    try simp only [Act.put, List.getElem_toArray, List.getElem_cons_succ, List.getElem_cons_zero, List.setIfInBounds_toArray, List.set_cons_zero, List.set_cons_succ]
    refine wpAnyH_take (i := 4) rfl (by kernel_rfl) (by kernel_rfl) (by kernel_rfl) (fun _ _ _ h => h) (yieldsIf_load_mid (by rfl) _ _ rfl _ _ rfl _ _ (fun W hW => whole_range hW.ui.hb LB.out) Try.underlying27 rfl (sz16 b LB.out)) H0.out ?_
    try simp only [Act.put, List.getElem_toArray, List.getElem_cons_succ, List.getElem_cons_zero, List.setIfInBounds_toArray, List.set_cons_zero, List.set_cons_succ]
    refine wpAnyH_take (i := 5) (v := .bool (decide (a = b))) rfl (by kernel_rfl) (by kernel_rfl) (by kernel_rfl) (fun _ _ _ h => h) (Or.inl ⟨by rfl, fun W hW => by clear hW; go_simp⟩) H0.out ?_
    try simp only [Act.put, List.getElem_toArray, List.getElem_cons_succ, List.getElem_cons_zero, List.setIfInBounds_toArray, List.set_cons_zero, List.set_cons_succ]
    refine wpAnyH_take (i := 6) (v := .bool true) rfl (by kernel_rfl) (by kernel_rfl) (by kernel_rfl) (fun _ _ _ h => h) (Or.inl ⟨by rfl, fun W hW => by clear hW; go_simp⟩) H0.out ?_
    try simp only [Act.put, List.getElem_toArray, List.getElem_cons_succ, List.getElem_cons_zero, List.setIfInBounds_toArray, List.set_cons_zero, List.set_cons_succ]
    refine wpAnyH_take (i := 7) (v := .bool true) rfl (by kernel_rfl) (by kernel_rfl) (by kernel_rfl) (fun _ _ _ h => h) (Or.inl ⟨by rfl, fun W hW => by clear hW; go_simp⟩) H0.out ?_
    try simp only [Act.put, List.getElem_toArray, List.getElem_cons_succ, List.getElem_cons_zero, List.setIfInBounds_toArray, List.set_cons_zero, List.set_cons_succ]
    refine wpAnyH_take (i := 8) (v := .pointer (some ⟨g, 0, none⟩)) rfl (by kernel_rfl) (by kernel_rfl) (by kernel_rfl) (fun _ _ _ h => h) (Or.inl ⟨by rfl, fun W hW => by clear hW; go_simp⟩) H0.out ?_
    try simp only [Act.put, List.getElem_toArray, List.getElem_cons_succ, List.getElem_cons_zero, List.setIfInBounds_toArray, List.set_cons_zero, List.set_cons_succ]
    refine wpAnyH_take (i := 9) rfl (by kernel_rfl) (by kernel_rfl) (by kernel_rfl) (fun _ _ _ h => h) (yieldsIf_load_mid (by rfl) _ _ rfl _ _ rfl _ _ (fun W hW => whole_range hW.ui.ha LA.out) Try.underlying27 rfl (sz16 a LA.out)) H0.out ?_
    try simp only [Act.put, List.getElem_toArray, List.getElem_cons_succ, List.getElem_cons_zero, List.setIfInBounds_toArray, List.set_cons_zero, List.set_cons_succ]
    refine wpAnyH_take (i := 11) rfl (by kernel_rfl) (by kernel_rfl) (by kernel_rfl) (fun _ _ _ h => h) (yieldsIf_load_mid (by rfl) _ _ rfl _ _ rfl _ _ (fun W hW => whole_range hW.hx OA.out.1) Try.underlying27 rfl (sz16 X OA.out.1)) H0.out ?_
    try simp only [Act.put, List.getElem_toArray, List.getElem_cons_succ, List.getElem_cons_zero, List.setIfInBounds_toArray, List.set_cons_zero, List.set_cons_succ]
    refine wpAnyH_ready (rs := [10]) (by kernel_rfl) (by simp) ?_
    refine AllReadyH.cons rfl (fun K hK => ?_) AllReadyH.nil
    go_simp
    go_at_call 17
    refine (EAL.out g _ H0.out.hc).mono ?_
    rintro e V7 ⟨rfl, hb5⟩
    have H1 := Lib.hid (H0.out.call hb5)
    clear hb5
    refine hK.out _ _ H1.out (fun _ => ?_)
    clear hK K
    try simp only [Act.put, List.getElem_toArray, List.getElem_cons_succ, List.getElem_cons_zero, List.setIfInBounds_toArray, List.set_cons_zero, List.set_cons_succ]
    refine wpAnyH_take (i := 12) (v := .bool true) rfl (by kernel_rfl) (by kernel_rfl) (by kernel_rfl) (fun _ _ _ h => h) (Or.inl ⟨by rfl, fun W hW => by clear hW; go_simp⟩) H1.out ?_
    try simp only [Act.put, List.getElem_toArray, List.getElem_cons_succ, List.getElem_cons_zero, List.setIfInBounds_toArray, List.set_cons_zero, List.set_cons_succ]
    refine wpAnyH_take (i := 13) (v := .bool true) rfl (by kernel_rfl) (by kernel_rfl) (by kernel_rfl) (fun _ _ _ h => h) (Or.inl ⟨by rfl, fun W hW => by clear hW; go_simp⟩) H1.out ?_
    try simp only [Act.put, List.getElem_toArray, List.getElem_cons_succ, List.getElem_cons_zero, List.setIfInBounds_toArray, List.set_cons_zero, List.set_cons_succ]
    refine wpAnyH_take (i := 14) (v := .bool true) rfl (by kernel_rfl) (by kernel_rfl) (by kernel_rfl) (fun _ _ _ h => h) (Or.inl ⟨by rfl, fun W hW => by clear hW; go_simp⟩) H1.out ?_
    try simp only [Act.put, List.getElem_toArray, List.getElem_cons_succ, List.getElem_cons_zero, List.setIfInBounds_toArray, List.set_cons_zero, List.set_cons_succ]
    refine wpAnyH_take (i := 15) rfl (by kernel_rfl) (by kernel_rfl) (by kernel_rfl) (fun _ _ _ h => h) (yieldsIf_load_mid (by rfl) _ _ rfl _ _ rfl _ _ (fun W hW => whole_range hW.ui.hk LK.out) Try.underlying27 rfl (sz16 key LK.out)) H1.out ?_
    try simp only [Act.put, List.getElem_toArray, List.getElem_cons_succ, List.getElem_cons_zero, List.setIfInBounds_toArray, List.set_cons_zero, List.set_cons_succ]
    refine wpAnyH_take (i := 17) rfl (by kernel_rfl) (by kernel_rfl) (by kernel_rfl) (fun _ _ _ h => h) (yieldsIf_load_mid (by rfl) _ _ rfl _ _ rfl _ _ (fun W hW => whole_range hW.ui.hb LB.out) Try.underlying27 rfl (sz16 b LB.out)) H1.out ?_
    try simp only [Act.put, List.getElem_toArray, List.getElem_cons_succ, List.getElem_cons_zero, List.setIfInBounds_toArray, List.set_cons_zero, List.set_cons_succ]
    refine wpAnyH_take (i := 19) rfl (by kernel_rfl) (by kernel_rfl) (by kernel_rfl) (fun _ _ _ h => h) (yieldsIf_load_mid (by rfl) _ _ rfl _ _ rfl _ _ (fun W hW => whole_range hW.hy OB.out.1) Try.underlying27 rfl (sz16 Y OB.out.1)) H1.out ?_
    try simp only [Act.put, List.getElem_toArray, List.getElem_cons_succ, List.getElem_cons_zero, List.setIfInBounds_toArray, List.set_cons_zero, List.set_cons_succ]
    refine wpAnyH_ready (rs := [16]) (by kernel_rfl) (by simp) ?_
    refine AllReadyH.cons rfl (fun K hK => ?_) AllReadyH.nil
    go_simp
    go_at_call 15
    refine (NWL.out _).mono ?_
    rintro e V8 ⟨g2, rfl, hg2, hc2, hb5⟩
    have H2 := Lib.hid (H1.out.call hb5)
    have C2 := Lib.hid hc2
    clear hb5 hc2 hg2
    refine hK.out _ _ H2.out (fun _ => ?_)
    clear hK K
    try simp only [Act.put, List.getElem_toArray, List.getElem_cons_succ, List.getElem_cons_zero, List.setIfInBounds_toArray, List.set_cons_zero, List.set_cons_succ]
    refine wpAnyH_ready (rs := [18]) (by kernel_rfl) (by simp) ?_
    refine AllReadyH.cons rfl (fun K hK => ?_) AllReadyH.nil
    go_simp
    go_at_call 17
    refine (EBL.out g2 _ C2.out).mono ?_
    rintro e V9 ⟨rfl, hb5⟩
    have H3 := Lib.hid (H2.out.call hb5)
    clear hb5
    refine hK.out _ _ H3.out (fun _ => ?_)
    clear hK K
    try simp only [Act.put, List.getElem_toArray, List.getElem_cons_succ, List.getElem_cons_zero, List.setIfInBounds_toArray, List.set_cons_zero, List.set_cons_succ]
    refine wpAnyH_take (i := 20) (v := .bool true) rfl (by kernel_rfl) (by kernel_rfl) (by kernel_rfl) (fun _ _ _ h => h) (Or.inl ⟨by rfl, fun W hW => by clear hW; go_simp⟩) H3.out ?_
    try simp only [Act.put, List.getElem_toArray, List.getElem_cons_succ, List.getElem_cons_zero, List.setIfInBounds_toArray, List.set_cons_zero, List.set_cons_succ]
    refine wpAnyH_take (i := 21) (v := .bool true) rfl (by kernel_rfl) (by kernel_rfl) (by kernel_rfl) (fun _ _ _ h => h) (Or.inl ⟨by rfl, fun W hW => by clear hW; go_simp⟩) H3.out ?_
    try simp only [Act.put, List.getElem_toArray, List.getElem_cons_succ, List.getElem_cons_zero, List.setIfInBounds_toArray, List.set_cons_zero, List.set_cons_succ]
    refine wpAnyH_take (i := 22) (v := .bool true) rfl (by kernel_rfl) (by kernel_rfl) (by kernel_rfl) (fun _ _ _ h => h) (Or.inl ⟨by rfl, fun W hW => by clear hW; go_simp⟩) H3.out ?_
    try simp only [Act.put, List.getElem_toArray, List.getElem_cons_succ, List.getElem_cons_zero, List.setIfInBounds_toArray, List.set_cons_zero, List.set_cons_succ]
    refine wpAnyH_done (by kernel_rfl) ?_ _
    go_wp2
    go_ret
    exact ⟨rfl, H3.out.ui.hw⟩
end Go.Proofs.Ytmmfigdmdamnlab
