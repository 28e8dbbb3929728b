/- The program makes a cipher of a key. No statement is proved here. -/
import Derived.Test.YtfbgpfiodgibbaaAExpand2
namespace Go.Proofs.Ytfbgpfiodgibbaa.A
open Go.RowKit
set_option linter.unusedVariables false

theorem zero49 (w : World) : (zeroValue 78).run Try.prog w = .ok (.agg (arrV (noughts 432))) w := by kernel_rfl
theorem fold_put (l : List Nat) : ∀ (n o : Nat) (xs : List Nat), o + n + l.length ≤ xs.length →
    List.foldl (fun (cs : Array Value) (x : Value × Nat) => cs.setIfInBounds (o + x.2) x.1) (arrV xs) ((vals l).zipIdx n) = arrV (xs.take (o + n) ++ l ++ xs.drop (o + n + l.length)) := by
  induction l with
  | nil => intro n o xs h; simp [vals]
  | cons y r ih =>
    intro n o xs h
    have e : (arrV xs).setIfInBounds (o + n) (.int .u8 (y : Int)) = arrV (xs.set (o + n) y) := by simp [arrV, vals, List.map_set]
    show List.foldl _ ((arrV xs).setIfInBounds (o + n) (.int .u8 (y : Int))) ((vals r).zipIdx (n + 1)) = _
    rw [e, ih (n + 1) o (xs.set (o + n) y) (by simp at h ⊢; omega)]
    congr 1
    have hl : o + n < xs.length := by simp at h; omega
    have e2 : (xs.set (o + n) y).take (o + (n + 1)) = xs.take (o + n) ++ [y] := by
      rw [show o + (n + 1) = (o + n) + 1 by omega, List.take_succ_eq_append_getElem (by simpa using hl)]
      simp [List.take_set_of_le]
    rw [e2, List.drop_set_of_lt (by omega)]
    simp only [List.append_assoc, List.length_cons, List.cons_append, List.nil_append]
    rw [show o + (n + 1) + r.length = o + n + (r.length + 1) by omega]
theorem build_fold (tb : List Nat) (h : tb.length = 256) : Array.foldl (fun (cs : Array Value) (x : Value × Nat) => cs.setIfInBounds (176 + x.2) x.1) (arrV (noughts 432)) (arrV tb).zipIdx 0 256 = arrV (noughts 176 ++ tb) := by
  have h1 : (arrV tb).zipIdx.size = 256 := by simp [arrV_size, h]
  have h2 : (arrV tb).zipIdx.toList = (vals tb).zipIdx := by simp [arrV]
  have h3 := fold_put tb 0 176 (noughts 432) (by rw [noughts_length, h]; omega)
  have h4 : Array.foldl (fun (cs : Array Value) (x : Value × Nat) => cs.setIfInBounds (176 + x.2) x.1) (arrV (noughts 432)) (arrV tb).zipIdx 0 (arrV tb).zipIdx.size = List.foldl (fun (cs : Array Value) (x : Value × Nat) => cs.setIfInBounds (176 + x.2) x.1) (arrV (noughts 432)) (arrV tb).zipIdx.toList := by rw [Array.foldl_toList]
  rw [h1] at h4
  rw [h4, h2]
  rw [show (vals tb).zipIdx = (vals tb).zipIdx 0 from rfl, h3, h]
  congr 1
  have e1 : (noughts 432).take (176 + 0) = noughts 176 := by unfold noughts; rw [List.take_replicate]; rfl
  have e2 : (noughts 432).drop (176 + 0 + 256) = [] := List.drop_of_length_le (by rw [noughts_length]; omega)
  rw [e1, e2, List.append_nil]

/-- The cells of a cipher before its keys are made. -/
def fresh : List Nat := noughts 176 ++ tbTo 256
theorem fresh_length : fresh.length = 432 := by unfold fresh; rw [List.length_append, noughts_length, tbTo_length]
theorem fresh_lt : ∀ x ∈ fresh, x < 256 := by
  intro x hx
  rcases List.mem_append.1 hx with hx | hx
  · exact noughts_lt 176 x hx
  · exact tbTo_lt 256 x hx
/-- The cells of the cipher of a key. -/
def cells (key : List Nat) : List Nat := outTo fresh (exTo fresh key 40).1 44
theorem cells_length (key : List Nat) (hk : key.length = 16) (bk : ∀ x ∈ key, x < 256) : (cells key).length = 432 :=
  outTo_length _ _ fresh_length (exTo_ok _ _ fresh_lt hk bk 40 (by omega)).1 44 (by omega)
theorem cells_eq (key : List Nat) (hk : key.length = 16) (bk : ∀ x ∈ key, x < 256) : cells key = (exTo fresh key 40).1 ++ tbTo 256 := by
  have hl := (exTo_ok _ _ fresh_lt hk bk 40 (by omega)).1
  unfold cells
  rw [outTo_eq _ _ fresh_length hl 44 (by omega), List.take_of_length_le (by omega)]
  congr 1
  unfold fresh
  rw [List.drop_append_of_le_length (by rw [noughts_length]; omega), List.drop_of_length_le (by rw [noughts_length]; omega), List.nil_append]

/-- The call hands back a cipher of the key, in a block of its own. -/
def GivesCipher (w : World) (key : List Nat) (e : Ending) (w' : World) : Prop :=
  ∃ g, e = .returned (.pointer (some ⟨g, 0, none⟩)) ∧ w.heap.size ≤ g ∧ Blk w' g 78 (cells key) ∧ Below w.heap.size w w'
theorem new_end {w w1 w3 : World} {key : List Nat} (hb : Below (w.alloc (.cells (arrV key) 23)).heap.size (w.alloc (.cells (arrV key) 23)) w1) (h1 : Blk w3 w1.heap.size 78 (cells key)) (h2 : (w1.alloc (.cells (arrV fresh) 78)).grownBy w3 (some w1.heap.size)) :
    GivesCipher w key (.returned (.pointer (some ⟨w1.heap.size, 0, none⟩))) w3 := by
  have hs : (w.alloc (.cells (arrV key) 23)).heap.size = w.heap.size + 1 := by simp
  have hs2 := hb.size
  rw [hs] at hs2
  have b1 : Below w.heap.size w w1 := ((Below.refl _ _).alloc (Nat.le_refl _) (.cells (arrV key) 23)).trans (hb.mono (by rw [hs]; omega))
  exact ⟨_, rfl, by omega, h1, (b1.alloc b1.size _).grown h2 (by simp; omega) (fun k hk => by injection hk with hk; omega)⟩

set_option maxRecDepth 100000 in
set_option maxHeartbeats 600000 in
theorem new_any (key : List Nat) (w : World) (hk : key.length = 16) (bk : ∀ x ∈ key, x < 256) : Calls Try.prog 23 #[.agg (arrV key)] w (GivesCipher w key) := by
  have HK := Lib.hid hk
  have BK := Lib.hid bk
  clear hk bk
  have z49 := zero49
  have FE := Lib.hid (show noughts 176 ++ tbTo 256 = fresh from rfl)
  have s1 : (arrV (tbTo 256)).size = 256 := by rw [arrV_size, tbTo_length]
  have s2 : (arrV (noughts 432)).size = 432 := by rw [arrV_size, noughts_length]
  have s3 := build_fold (tbTo 256) (tbTo_length 256)
  rw [FE.out] at s3
  go_enter Try.func23, Try.ntmps23
  go_wp2_with fail
  refine (standing_any _).mono ?_
  rintro e w1 ⟨rfl, hb1⟩
  generalize tbTo 256 = tb at s1 s3 ⊢
  have Hb1 := Lib.hid hb1
  have HR : Hid ((w1.alloc (.cells (arrV fresh) 78)).rangeAt w.heap.size 0 (vals key)) := whole_range (((Blk.new w 23 key).below hb1 (by simp)).alloc _) HK.out
  clear hb1
  go_wp2_with (first
    | (refine wpList_load_mid rfl 23 _ rfl w.heap.size 0 rfl (vals key) _ HR.out Try.underlying23 rfl (by rw [vals_length, HK.out]; exact size27) ?_)
    | fail)
  clear z49 s1 s2 s3 HR
  refine (expand_any w1.heap.size fresh key _ (Blk.new w1 78 fresh) fresh_length fresh_lt HK.out BK.out).mono ?_
  rintro e w3 ⟨rfl, h1, h2⟩
  have H1 := Lib.hid h1
  have H2 := Lib.hid h2
  clear h1 h2
  go_wp2
  go_ret
  exact new_end Hb1.out H1.out H2.out

end Go.Proofs.Ytfbgpfiodgibbaa.A
