/- The kinds of tags: what a tag is; a book is made. No statement is proved here. -/
import Derived.Test.YtpibmccofjpelaaNote
namespace Go.Proofs.Ytpibmccofjpelaa
open Go.RowKit Go.Maps
set_option linter.unusedVariables false
set_option linter.unusedSimpArgs false

def tagK : Kd → List Nat → Nat → Nat
  | .ideal, _, N => N
  | .sip key, xs, _ => ssum key xs
def okK : Kd → Nat → Bool
  | .ideal, N => decide (0 < N)
  | .sip _, _ => true
def Kd.ok : Kd → Prop
  | .ideal => True
  | .sip key => key.length = 16 ∧ ∀ x ∈ key, x < 256
theorem method_sum (key : List Nat) (W : World) : (method 217 84 (.agg (arrV key)) "bastion/mac.tagOf").run Try.prog W = .ok (66, .agg (arrV key)) W := by kernel_rfl
attribute [local irreducible] ssum
set_option maxRecDepth 20000 in
set_option maxHeartbeats 1000000 in
theorem tagOf_sum (key : List Nat) (A : Option Addr) (n c : Nat) (xs : List Nat) (N : Int) (w : World) (hk : key.length = 16) (bk : ∀ x ∈ key, x < 256) (hx : Row w w.heap.size A n c xs) :
    Calls Try.prog 66 #[.agg (arrV key), .slice A n c, .int .i64 N] w fun e w' => e = .returned (.tuple #[.int .u64 (ssum key xs : Nat), .bool true]) ∧ Below w.heap.size w w' := by
  have HB := Lib.hid (Blk.new w 84 key)
  have HR := Lib.hid (whole_range HB.out hk)
  have SZ := Lib.hid (sz16 key hk)
  have B0 := Lib.hid ((Below.refl w.heap.size w).alloc (Nat.le_refl _) (Obj.cells (arrV key) 84))
  have SM := Lib.hid (sipSum_any key A n c xs (w.alloc (.cells (arrV key) 84)) hk bk ((hx.below B0.out).wider B0.out.size))
  clear hk bk hx
  go_enter Try.func66, Try.ntmps66
  go_wp2_with (first
    | (refine wpList_load_mid rfl 23 _ rfl w.heap.size 0 rfl (vals key) _ HR.out Try.underlying23 rfl SZ.out ?_)
    | (go_at_call 13; refine SM.out.mono ?_; rintro e X1 ⟨rfl, hb⟩)
    | fail)
  exact bodyPost_ret (results_tmp2 Try.results66 _ _ _) rfl ⟨rfl, B0.out.trans (hb.mono B0.out.size)⟩
theorem foldset (l : List Value) : ∀ (s : Nat) (acc : Array Value), acc.size = s + l.length → (List.foldl (fun (cs : Array Value) (x : Value × Nat) => cs.setIfInBounds x.snd x.fst) acc (l.zipIdx s)).toList = acc.toList.take s ++ l := by
  induction l with
  | nil =>
    intro s acc h
    simp only [List.length_nil, Nat.add_zero] at h
    rw [List.zipIdx_nil, List.foldl_nil, List.append_nil, List.take_of_length_le (by simp; omega)]
  | cons a l ih =>
    intro s acc h
    rw [List.zipIdx_cons, List.foldl_cons, ih (s + 1) _ (by simp only [Array.size_setIfInBounds, List.length_cons] at h ⊢; omega)]
    simp only [List.length_cons] at h
    rw [Array.toList_setIfInBounds, List.take_succ_eq_append_getElem (by simp; omega), List.getElem_set_self, List.take_set_of_le (Nat.le_refl _)]
    simp
theorem fold16 (l : List Value) (h : l.length = 16) : List.foldl (fun (cs : Array Value) (x : Value × Nat) => cs.setIfInBounds x.snd x.fst) #[.int .u8 0, .int .u8 0, .int .u8 0, .int .u8 0, .int .u8 0, .int .u8 0, .int .u8 0, .int .u8 0, .int .u8 0, .int .u8 0, .int .u8 0, .int .u8 0, .int .u8 0, .int .u8 0, .int .u8 0, .int .u8 0] l.zipIdx = l.toArray := by
  rw [← Array.toList_inj, foldset l 0 _ (by rw [h]; rfl)]
  simp
theorem Gk.new {V : World} {base gk : Nat} {K : Kd} {gl m1 m2 : Nat} (hb : V.heap[gk]? = some (.cells #[K.face, .pointer (some ⟨gl, 0, none⟩), .slice none 0 0] 80 (0, 0))) (hm : MSt V base gl (.slice none 0 0) m1 m2 []) (hl : base ≤ gk ∧ base ≤ gl ∧ base ≤ m1 ∧ base ≤ m2) : Gk V base gk K [] [] gl (.slice none 0 0) m1 m2 (.slice none 0 0) :=
  ⟨hb, hm, World.ownsRow_nil _ _ _ _, fun r hr => absurd hr (by simp), hl⟩
theorem gnew_ideal (key : List Nat) (base : Nat) (w : World) (hb : base ≤ w.heap.size) :
    Calls Try.prog 21 #[.int .i64 0, .agg (arrV key)] w fun e w' => ∃ gk gl m1 m2, e = .returned (.tuple #[.pointer (some ⟨gk, 0, none⟩), .int .i64 0]) ∧ Gk w' base gk .ideal [] [] gl (.slice none 0 0) m1 m2 (.slice none 0 0) ∧ (w.heap.size ≤ gk ∧ w.heap.size ≤ gl ∧ w.heap.size ≤ m1 ∧ w.heap.size ≤ m2) ∧ Below w.heap.size w w' := by
  refine (macNew_ideal key base w hb).mono ?_
  rintro e w' ⟨gk, gl, m1, m2, rfl, hS, l0, l1, l2, l3, hB⟩
  exact ⟨gk, gl, m1, m2, rfl, Gk.new hS.blk hS.ls ⟨by omega, by omega, by omega, by omega⟩, ⟨l0, l1, l2, l3⟩, hB⟩
set_option maxRecDepth 20000 in
set_option maxHeartbeats 1000000 in
theorem gnew_sip (key : List Nat) (base : Nat) (w : World) (hb : base ≤ w.heap.size) (hk : key.length = 16) :
    Calls Try.prog 21 #[.int .i64 1, .agg (arrV key)] w fun e w' => ∃ gk gl m1 m2, e = .returned (.tuple #[.pointer (some ⟨gk, 0, none⟩), .int .i64 0]) ∧ Gk w' base gk (.sip key) [] [] gl (.slice none 0 0) m1 m2 (.slice none 0 0) ∧ (w.heap.size ≤ gk ∧ w.heap.size ≤ gl ∧ w.heap.size ≤ m1 ∧ w.heap.size ≤ m2) ∧ Below w.heap.size w w' := by
  have NW := Lib.hid (fun W (h : base ≤ W.heap.size) => marksNew_any base W h)
  have B0 := Lib.hid ((Below.refl w.heap.size w).alloc (Nat.le_refl _) (Obj.cells (arrV key) 23))
  have Z0 : Hid ((w.alloc (Obj.cells (arrV key) 23)).heap.size = w.heap.size + 1) := by simp [Hid]
  have KB := Lib.hid (Blk.new w 23 key)
  have SZ := Lib.hid (sz16 key hk)
  have lv : (vals key).length = 16 := by rw [vals_length]; exact hk
  have lv2 : (vals key).toArray.size = 16 := by simpa using lv
  go_enter Try.func21, Try.ntmps21
  go_wp2_with (first
    | (go_at_call 39; refine (NW.out _ (by simp; omega)).mono ?_; rintro e X1 ⟨gl, m1, m2, rfl, hM, l0, l1, l2, hb1⟩; have HM := Lib.hid hM; have HB1 := Lib.hid hb1; have HR := Lib.hid (whole_range (w := X1.alloc (.cells #[.nilIface, .pointer (some ⟨gl, 0, none⟩), .slice none 0 0] 80)) (show Blk _ w.heap.size 23 key from (Below.heap_alloc X1 _ _ (by have := hb1.size; rw [Z0.out] at this; omega)).trans ((hb1.block _ (by rw [Z0.out]; omega)).trans KB.out)) hk); have LL := Lib.hid (And.intro l0 (And.intro l1 l2)); clear hM hb1 l0 l1 l2)
    | (refine wpList_load_mid rfl 23 _ rfl w.heap.size 0 rfl (vals key) _ HR.out Try.underlying23 rfl SZ.out ?_)
    | fail)
  rw [fold16 _ (by rw [vals_length]; exact hk)]
  have hb2 := B0.out.trans (HB1.out.mono B0.out.size)
  have hz := Z0.out
  have hs := hb2.size
  obtain ⟨l0, l1, l2⟩ := LL.out
  refine bodyPost_ret (results_tmp2 Try.results21 _ _ _) rfl ⟨X1.heap.size, gl, m1, m2, rfl, Gk.new (heap_alloc_new X1 _) ?_ ⟨by omega, by omega, by omega, by omega⟩, ⟨hs, by omega, by omega, by omega⟩, hb2.alloc hs _⟩
  exact HM.out.below ((Below.refl _ _).alloc (Nat.le_refl _) _)
theorem ssum_lt (key xs : List Nat) (hk : key.length = 16) (bk : ∀ x ∈ key, x < 256) (bx : ∀ x ∈ xs, x < 256) : ssum key xs < 18446744073709551616 := by
  have ok := hputs_ok (hstart_ok key hk bk) xs bx
  unfold ssum hsum
  exact fin_lt _ (takeM_ok _ _ ok.v (last_lt _ _ (left_lt _ ok) ok.cnt))
end Go.Proofs.Ytpibmccofjpelaa
