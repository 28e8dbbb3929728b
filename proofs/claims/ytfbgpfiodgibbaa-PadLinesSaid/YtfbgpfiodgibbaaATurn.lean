/- The program turns a word of the keys. No statement is proved here. -/
import Derived.Test.YtfbgpfiodgibbaaAStanding
namespace Go.Proofs.Ytfbgpfiodgibbaa.A
open Go.RowKit
set_option linter.unusedVariables false

def zeros4 : List Nat := [0, 0, 0, 0]
/-- The first k bytes of a word that is turned, by the table that lies in cs from 176 on. -/
def tnTo (cs xs : List Nat) : Nat → List Nat
  | 0 => zeros4
  | k + 1 => (tnTo cs xs k).set k (cs.getD (176 + xs.getD ((k + 1) % 4) 0) 0)
/-- A word, turned, a power of x added. -/
def turned (cs xs : List Nat) (p : Nat) : List Nat := (tnTo cs xs 4).set 0 ((tnTo cs xs 4).getD 0 0 ^^^ p)
theorem tnTo_length (cs xs : List Nat) (k : Nat) : (tnTo cs xs k).length = 4 := by
  induction k with
  | zero => rfl
  | succ k ih => simp [tnTo, ih]
theorem tnTo_lt (cs xs : List Nat) (hc : ∀ x ∈ cs, x < 256) (k : Nat) : ∀ x ∈ tnTo cs xs k, x < 256 := by
  induction k with
  | zero => exact (by decide : ∀ x ∈ zeros4, x < 256)
  | succ k ih => exact set_lt _ ih _ _ (getD_lt _ hc _)
theorem turned_length (cs xs : List Nat) (p : Nat) : (turned cs xs p).length = 4 := by simp [turned, tnTo_length]
theorem turned_lt (cs xs : List Nat) (p : Nat) (hc : ∀ x ∈ cs, x < 256) (hp : p < 256) : ∀ x ∈ turned cs xs p, x < 256 :=
  set_lt _ (tnTo_lt cs xs hc 4) _ _ (Nat.xor_lt_two_pow (n := 8) (getD_lt _ (tnTo_lt cs xs hc 4) _) hp)
/-- Blocks: the word, the result, what is made. -/
def URel (w : World) (gc : Nat) (cs xs : List Nat) (i : Value) (wr : World) : Prop :=
  ∃ k, k ≤ 4 ∧ i = .int .i64 (k : Nat) ∧ Blk wr gc 78 cs ∧ Blk wr w.heap.size 85 xs ∧ Blk wr (w.heap.size + 1) 85 zeros4 ∧ Blk wr (w.heap.size + 1 + 1) 85 (tnTo cs xs k) ∧ Below w.heap.size w wr
theorem turn_start {w : World} {gc : Nat} {cs : List Nat} (hc : Blk w gc 78 cs) (xs : List Nat) : URel w gc cs xs (.int .i64 0) (((w.alloc (.cells (arrV xs) 85)).alloc (.cells (arrV zeros4) 85)).alloc (.cells (arrV zeros4) 85)) := by
  have e1 : (w.alloc (.cells (arrV xs) 85)).heap.size = w.heap.size + 1 := by simp
  have e2 : ((w.alloc (.cells (arrV xs) 85)).alloc (.cells (arrV zeros4) 85)).heap.size = w.heap.size + 1 + 1 := by simp
  have h1 := Blk.new (w.alloc (.cells (arrV xs) 85)) 85 zeros4
  have h2 := Blk.new ((w.alloc (.cells (arrV xs) 85)).alloc (.cells (arrV zeros4) 85)) 85 zeros4
  rw [e1] at h1
  rw [e2] at h2
  exact ⟨0, Nat.zero_le _, rfl, ((hc.alloc _).alloc _).alloc _, ((Blk.new w 85 xs).alloc _).alloc _, h1.alloc _, h2, (((Below.refl _ _).alloc (Nat.le_refl _) _).alloc (by simp) _).alloc (by simp; omega) _⟩
theorem turn_step {w wr : World} {gc : Nat} {cs xs : List Nat} {k u y : Nat} (hgc : gc < w.heap.size) (hc : Blk wr gc 78 cs) (h0 : Blk wr w.heap.size 85 xs) (h1 : Blk wr (w.heap.size + 1) 85 zeros4) (h2 : Blk wr (w.heap.size + 1 + 1) 85 (tnTo cs xs k)) (hb : Below w.heap.size w wr) (hk : k < 4) (hy : xs.getD ((k + 1) % 4) 0 = y) (hu : cs.getD (176 + y) 0 = u) :
    URel w gc cs xs (.int .i64 ((k : Int) + 1)) (wr.setCell ⟨w.heap.size + 1 + 1, k, none⟩ (.int .u8 (u : Int))).drew := by
  refine ⟨k + 1, hk, by simp, (hc.far (by simp; omega) _).drew, (h0.far (by simp; omega) _).drew, (h1.far (by simp) _).drew, ?_, (hb.setCell (by simp; omega) _).drew⟩
  rw [tnTo, hy, hu]
  exact (h2.set_ k u).drew
attribute [irreducible] tnTo

set_option maxRecDepth 100000 in
set_option maxHeartbeats 1000000 in
theorem turn_any (gc : Nat) (cs xs : List Nat) (p : Nat) (w : World) (hc : Blk w gc 78 cs) (hl : cs.length = 432) (bc : ∀ x ∈ cs, x < 256) (hx : xs.length = 4) (bx : ∀ x ∈ xs, x < 256) (hp : p < 256) :
    Calls Try.prog 45 #[.pointer (some ⟨gc, 0, none⟩), .agg (arrV xs), .int .u8 p] w (GivesArr w (turned cs xs p)) := by
  have HX := Lib.hid hx
  have HL := Lib.hid hl
  have BX := Lib.hid bx
  have BC := Lib.hid bc
  have HC := Lib.hid hc
  have hgc := hc.lt
  clear hx hl bx hc bc
  go_enter Try.func45, Try.ntmps45
  go_wp2
  go_loopw [9] (URel w gc cs xs) (fun i _ => 4 - (intOf i).toNat)
  case atStart => exact turn_start HC.out xs
  case round =>
    obtain ⟨k, hk, rfl, hc, h0, h1, h2, hb⟩ := hrel
    have H := Lib.hid hc
    have H0 := Lib.hid h0
    have H1 := Lib.hid h1
    have H2 := Lib.hid h2
    have Hb := Lib.hid hb
    clear h0 h1 h2 hb hc
    by_cases hlt : k < 4
    · have l1 := getD_lt xs BX.out ((k + 1) % 4)
      have c0 := H.out.cell (176 + xs.getD ((k + 1) % 4) 0) (by rw [HL.out]; omega)
      have c1 := H0.out.cell ((k + 1) % 4) (by rw [HX.out]; omega)
      have c2 := H2.out.cell k (by rw [tnTo_length]; omega)
      have f2 := H2.out.frozen k
      generalize hy : xs.getD ((k + 1) % 4) 0 = y at *
      generalize hu : cs.getD (176 + y) 0 = u at *
      have Hu := Lib.hid hu
      have Hy := Lib.hid hy
      clear hu hy
      generalize List.getD (tnTo cs xs k) k 0 = v at *
      go_wp2
      go_region
      go_wp2
      go_roundw
      case rel => exact turn_step hgc H.out H0.out H1.out H2.out Hb.out hlt Hy.out Hu.out
      case measure => simp [intOf]; omega
    · have e4 : tnTo cs xs k = tnTo cs xs 4 := by rw [show k = 4 by omega]
      have H4 : Hid (Blk wr (w.heap.size + 1 + 1) 85 (tnTo cs xs 4)) := by rw [← e4]; exact H2
      clear e4 H2
      have hl4 := Lib.hid (tnTo_length cs xs 4)
      have c0 := H4.out.cell 0 (by rw [hl4.out]; omega)
      have f0 := H4.out.frozen 0
      have l0 := getD_lt _ (tnTo_lt cs xs BC.out 4) 0
      have ht : turned cs xs p = (tnTo cs xs 4).set 0 ((tnTo cs xs 4).getD 0 0 ^^^ p) := rfl
      generalize List.getD (tnTo cs xs 4) 0 0 = v at *
      have HT := Lib.hid ht
      clear ht
      have hx8 := u8_xor_nat v p l0 hp
      have H5 : Hid (Blk (wr.setCell ⟨w.heap.size + 1 + 1, 0, none⟩ (.int .u8 ((v ^^^ p : Nat) : Int))) (w.heap.size + 1 + 1) 85 (turned cs xs p)) := by rw [HT.out]; exact H4.out.set_ 0 (v ^^^ p)
      have H6 : Hid (Blk (wr.setCell ⟨w.heap.size + 1 + 1, 0, none⟩ (.int .u8 ((v ^^^ p : Nat) : Int))) (w.heap.size + 1) 85 zeros4) := H1.out.far (by simp) _
      have hl5 := Lib.hid (turned_length cs xs p)
      go_wp2_with (first
        | (refine wpList_load_mid rfl 85 _ rfl (w.heap.size + 1 + 1) 0 rfl (vals (turned cs xs p)) _ (whole_range H5.out hl5.out) Try.underlying85 rfl (by rw [vals_length, hl5.out]; exact size59) ?_)
        | (refine wpList_store_mid rfl 85 _ _ rfl (w.heap.size + 1) 0 (arrV (turned cs xs p)) rfl rfl (by rw [arrV_size, hl5.out]; exact H6.out.there 0 4 (by simp [zeros4])) (by rw [arrV_size, hl5.out]; exact size59) (arrV_all _) ?_; rw [arrV_toList]))
      have hs := H6.out.storeAll (ys := turned cs xs p) (by rw [hl5.out]; rfl)
      exact bodyPost_ret (results_arr Try.results45 _ _ (w.heap.size + 1) rfl _ (hs.loadAll 85 _ hl5.out Try.underlying85 rfl size59)) rfl ⟨rfl, below_setCells (Hb.out.setCell (by simp; omega) _) (by omega) _ _⟩
end Go.Proofs.Ytfbgpfiodgibbaa.A
