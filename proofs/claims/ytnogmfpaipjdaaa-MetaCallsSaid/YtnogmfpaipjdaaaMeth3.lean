/- The methods Put, Update and Move. No statement is proved here. -/
import Derived.Test.YtnogmfpaipjdaaaBuild
import Derived.Test.YtnogmfpaipjdaaaPParent
namespace Go.Proofs.Ytnogmfpaipjdaaa
open Go.RowKit
open P (Pl right hasI vals)
set_option maxRecDepth 20000
set_option linter.unusedVariables false
set_option linter.unusedSimpArgs false

theorem itemP_any (p : Pl) (x : It) (W : World) : Calls Try.prog 30 #[.agg p.arr, .agg x.arr] W fun e W' => e = .returned (.tuple #[.int .i64 (P.ItI p x.l x.x), .bool (isIt p x)]) ∧ Below W.heap.size W W' := P.item_any p x.l x.x W
/-- The item above one; whether there is one. -/
def hasUp (p : Pl) (x : It) : Bool := P.hasU p x.l x.x
def upI (p : Pl) (x : It) : It := ⟨P.upL p x.l x.x, P.upX p x.l x.x⟩
theorem parentP_any (p : Pl) (x : It) (W : World) : Calls Try.prog 55 #[.agg p.arr, .agg x.arr] W fun e W' => e = .returned (.tuple #[.agg (upI p x).arr, .int .i64 (P.upC p x.l x.x), .bool (hasUp p x)]) ∧ Below W.heap.size W W' := P.parent_any p x.l x.x W
attribute [local irreducible] It.arr Cd.arr lnA
section
variable {w W W' : World} {g b : Nat} {p : Pl} {l : List Cd} {L M : Blks}
set_option maxHeartbeats 4000000 in
theorem put_any (h : MC w W g b p l L) (I : Inv p l) (k : Int) (x : It) (bs : List Nat) (hl : bs.length = 32) (hn : l.length ≤ 1000) :
    Calls Try.prog 9 #[.pointer (some ⟨g, 0, none⟩), .int .i64 k, .agg x.arr, .agg (lnA bs)] W fun e W' => e = .returned (.int .i64 (putK p l k x)) ∧ MC w W' g b p (putL p l k x ⟨x, k, bs, false, hl⟩) L := by
  have IT := Lib.hid (fun V => itemP_any p x V)
  have HB := Lib.hid (fun V h => hasBank_any (g := g) (b := b) I.rt k V h)
  have GE := Lib.hid (fun V L (h : MC w V g b p l L) => get_any h I x)
  have RO := Lib.hid (fun V L (h : MC w V g b p l L) => room_any h I.rt k)
  generalize P.ItI p x.l x.x = T0 at *
  have EK := Lib.hid (show putK p l k x = if hasB p k && isIt p x then (if (findC l x).isSome then 7 else if roomV p l k = 0 then 5 else 0) else 2 from rfl)
  have EL := Lib.hid (show putL p l k x ⟨x, k, bs, false, hl⟩ = if putK p l k x = 0 then l ++ [⟨x, k, bs, false, hl⟩] else l from rfl)
  generalize putL p l k x ⟨x, k, bs, false, hl⟩ = l2 at *
  generalize putK p l k x = K at *
  cases hi : isIt p x with
  | false =>
    rw [hi] at IT EK
    have e1 : Hid (K = 2) := show _ = _ by rw [EK.out, Bool.and_false]; rfl
    have e2 : Hid (l2 = l) := show _ = _ by rw [EL.out, if_neg (by rw [e1.out]; omega)]
    clear HB GE RO EK EL hi
    go_enter Try.func9, Try.ntmps9
    go_wp2_with (first
      | (refine wpList_box_itW h x _ rfl rfl rfl ?_; clear h; intro W1 h1; generalize W.heap.size = xb at *)
      | (have _ := h1; refine wpList_box_lnW h1 bs _ rfl rfl rfl ?_; clear h1; intro W2 h2; generalize W1.heap.size = yb at *))
    have HS0 := Lib.hid (show MC w W2.drew g b p l ((yb, C 44 (lnA bs)) :: (xb, C 42 x.arr) :: L) from h2.drewN 1)
    have CB := Lib.hid (fun V (h : MC w V g b p l ((yb, C 44 (lnA bs)) :: (xb, C 42 x.arr) :: L)) => show (loadVar 28 ⟨g, 0, none⟩).run Try.prog V = .ok (.agg p.arr) V ∧ (loadVar 42 ⟨xb, 0, none⟩).run Try.prog V = .ok (.agg x.arr) V from ⟨load_pl h.plan, load_itA (h.at2 1 rfl)⟩)
    have H0 := Lib.hid (CB.out _ HS0.out)
    clear h2
    refine wp_region_held_drew (S := fun W => (loadVar 28 ⟨g, 0, none⟩).run Try.prog W = .ok (.agg p.arr) W ∧ (loadVar 42 ⟨xb, 0, none⟩).run Try.prog W = .ok (.agg x.arr) W) (by kernel_rfl) H0.out (fun _ => ?_)
    generalize W2.drew = V0 at *
    refine wpAnyH_take (i := 0) (v := .pointer (some ⟨g, 0, none⟩)) rfl (by kernel_rfl) (by kernel_rfl) (by kernel_rfl) (fun _ _ _ h => h) (Or.inl ⟨by rfl, fun W hW => by clear hW; go_simp⟩) H0.out ?_
    try simp only [Act.put, List.getElem_toArray, List.getElem_cons_succ, List.getElem_cons_zero, List.setIfInBounds_toArray, List.set_cons_zero, List.set_cons_succ]
    refine wpAnyH_take (i := 1) (v := .pointer (some ⟨g, 0, none⟩)) rfl (by kernel_rfl) (by kernel_rfl) (by kernel_rfl) (fun _ _ _ h => h) (Or.inl ⟨by rfl, fun W hW => by clear hW; go_simp⟩) H0.out ?_
    try simp only [Act.put, List.getElem_toArray, List.getElem_cons_succ, List.getElem_cons_zero, List.setIfInBounds_toArray, List.set_cons_zero, List.set_cons_succ]
    refine wpAnyH_take (i := 2) (v := .pointer (some ⟨g, 0, none⟩)) rfl (by kernel_rfl) (by kernel_rfl) (by kernel_rfl) (fun _ _ _ h => h) (Or.inl ⟨by rfl, fun W hW => by clear hW; go_simp⟩) H0.out ?_
    try simp only [Act.put, List.getElem_toArray, List.getElem_cons_succ, List.getElem_cons_zero, List.setIfInBounds_toArray, List.set_cons_zero, List.set_cons_succ]
    refine wpAnyH_take (i := 3) (v := .agg p.arr) rfl (by kernel_rfl) (by kernel_rfl) (by kernel_rfl) (fun _ _ _ h => h) (yields_run _ rfl (by rfl) rfl (fun W hW => hW.1)) H0.out ?_
    try simp only [Act.put, List.getElem_toArray, List.getElem_cons_succ, List.getElem_cons_zero, List.setIfInBounds_toArray, List.set_cons_zero, List.set_cons_succ]
    refine wpAnyH_take (i := 4) (v := .agg x.arr) rfl (by kernel_rfl) (by kernel_rfl) (by kernel_rfl) (fun _ _ _ h => h) (yields_run _ rfl (by rfl) rfl (fun W hW => hW.2)) H0.out ?_
    try simp only [Act.put, List.getElem_toArray, List.getElem_cons_succ, List.getElem_cons_zero, List.setIfInBounds_toArray, List.set_cons_zero, List.set_cons_succ]
    refine wpAnyH_ready (rs := [5]) (by kernel_rfl) (by simp) ?_
    refine AllReadyH.cons rfl (fun K hK => ?_) AllReadyH.nil
    go_simp
    go_at_call 30
    refine (IT.out _).mono ?_
    rintro e V1 ⟨rfl, hb1⟩
    have HS1 := Lib.hid (WC.call HS0.out hb1)
    clear hb1
    have H1_ := Lib.hid (CB.out _ HS1.out)
    refine hK.out _ _ H1_.out (fun _ => ?_)
    clear hK K
    try simp only [Act.put, List.getElem_toArray, List.getElem_cons_succ, List.getElem_cons_zero, List.setIfInBounds_toArray, List.set_cons_zero, List.set_cons_succ]
    refine wpAnyH_take (i := 6) (v := .tuple #[.int .i64 T0, .bool false]) rfl (by kernel_rfl) (by kernel_rfl) (by kernel_rfl) (fun _ _ _ h => h) (Or.inl ⟨by rfl, fun W hW => by clear hW; go_simp⟩) H1_.out ?_
    try simp only [Act.put, List.getElem_toArray, List.getElem_cons_succ, List.getElem_cons_zero, List.setIfInBounds_toArray, List.set_cons_zero, List.set_cons_succ]
    refine wpAnyH_take (i := 7) (v := .int .i64 T0) rfl (by kernel_rfl) (by kernel_rfl) (by kernel_rfl) (fun _ _ _ h => h) (Or.inl ⟨by rfl, fun W hW => by clear hW; go_simp⟩) H1_.out ?_
    try simp only [Act.put, List.getElem_toArray, List.getElem_cons_succ, List.getElem_cons_zero, List.setIfInBounds_toArray, List.set_cons_zero, List.set_cons_succ]
    refine wpAnyH_take (i := 8) (v := .bool false) rfl (by kernel_rfl) (by kernel_rfl) (by kernel_rfl) (fun _ _ _ h => h) (Or.inl ⟨by rfl, fun W hW => by clear hW; go_simp⟩) H1_.out ?_
    try simp only [Act.put, List.getElem_toArray, List.getElem_cons_succ, List.getElem_cons_zero, List.setIfInBounds_toArray, List.set_cons_zero, List.set_cons_succ]
    refine wpAnyH_take (i := 9) (v := .int .i64 T0) rfl (by kernel_rfl) (by kernel_rfl) (by kernel_rfl) (fun _ _ _ h => h) (Or.inl ⟨by rfl, fun W hW => by clear hW; go_simp⟩) H1_.out ?_
    try simp only [Act.put, List.getElem_toArray, List.getElem_cons_succ, List.getElem_cons_zero, List.setIfInBounds_toArray, List.set_cons_zero, List.set_cons_succ]
    refine wpAnyH_take (i := 10) (v := .bool false) rfl (by kernel_rfl) (by kernel_rfl) (by kernel_rfl) (fun _ _ _ h => h) (Or.inl ⟨by rfl, fun W hW => by clear hW; go_simp⟩) H1_.out ?_
    try simp only [Act.put, List.getElem_toArray, List.getElem_cons_succ, List.getElem_cons_zero, List.setIfInBounds_toArray, List.set_cons_zero, List.set_cons_succ]
    refine wpAnyH_done (by kernel_rfl) ?_ _
    have h3 := HS1.out
    clear H0 H1_ HS0 HS1 CB
    go_wp2
    go_ret
    exact ⟨by rw [e1.out]; rfl, by rw [e2.out]; exact h3.tail.tail⟩
  | true =>
  rw [hi] at IT EK
  cases hb : hasB p k with
  | false =>
    rw [hb] at HB EK
    have e1 : Hid (K = 2) := show _ = _ by rw [EK.out]; rfl
    have e2 : Hid (l2 = l) := show _ = _ by rw [EL.out, if_neg (by rw [e1.out]; omega)]
    clear GE RO EK EL hi hb
    go_enter Try.func9, Try.ntmps9
    go_wp2_with (first
      | (refine wpList_box_itW h x _ rfl rfl rfl ?_; clear h; intro W1 h1; generalize W.heap.size = xb at *)
      | (have _ := h1; refine wpList_box_lnW h1 bs _ rfl rfl rfl ?_; clear h1; intro W2 h2; generalize W1.heap.size = yb at *))
    have HS0 := Lib.hid (show MC w W2.drew g b p l ((yb, C 44 (lnA bs)) :: (xb, C 42 x.arr) :: L) from h2.drewN 1)
    have CB := Lib.hid (fun V (h : MC w V g b p l ((yb, C 44 (lnA bs)) :: (xb, C 42 x.arr) :: L)) => show (loadVar 28 ⟨g, 0, none⟩).run Try.prog V = .ok (.agg p.arr) V ∧ (loadVar 42 ⟨xb, 0, none⟩).run Try.prog V = .ok (.agg x.arr) V from ⟨load_pl h.plan, load_itA (h.at2 1 rfl)⟩)
    have H0 := Lib.hid (CB.out _ HS0.out)
    clear h2
    refine wp_region_held_drew (S := fun W => (loadVar 28 ⟨g, 0, none⟩).run Try.prog W = .ok (.agg p.arr) W ∧ (loadVar 42 ⟨xb, 0, none⟩).run Try.prog W = .ok (.agg x.arr) W) (by kernel_rfl) H0.out (fun _ => ?_)
    generalize W2.drew = V0 at *
    refine wpAnyH_take (i := 0) (v := .pointer (some ⟨g, 0, none⟩)) rfl (by kernel_rfl) (by kernel_rfl) (by kernel_rfl) (fun _ _ _ h => h) (Or.inl ⟨by rfl, fun W hW => by clear hW; go_simp⟩) H0.out ?_
    try simp only [Act.put, List.getElem_toArray, List.getElem_cons_succ, List.getElem_cons_zero, List.setIfInBounds_toArray, List.set_cons_zero, List.set_cons_succ]
    refine wpAnyH_take (i := 1) (v := .pointer (some ⟨g, 0, none⟩)) rfl (by kernel_rfl) (by kernel_rfl) (by kernel_rfl) (fun _ _ _ h => h) (Or.inl ⟨by rfl, fun W hW => by clear hW; go_simp⟩) H0.out ?_
    try simp only [Act.put, List.getElem_toArray, List.getElem_cons_succ, List.getElem_cons_zero, List.setIfInBounds_toArray, List.set_cons_zero, List.set_cons_succ]
    refine wpAnyH_take (i := 2) (v := .pointer (some ⟨g, 0, none⟩)) rfl (by kernel_rfl) (by kernel_rfl) (by kernel_rfl) (fun _ _ _ h => h) (Or.inl ⟨by rfl, fun W hW => by clear hW; go_simp⟩) H0.out ?_
    try simp only [Act.put, List.getElem_toArray, List.getElem_cons_succ, List.getElem_cons_zero, List.setIfInBounds_toArray, List.set_cons_zero, List.set_cons_succ]
    refine wpAnyH_take (i := 3) (v := .agg p.arr) rfl (by kernel_rfl) (by kernel_rfl) (by kernel_rfl) (fun _ _ _ h => h) (yields_run _ rfl (by rfl) rfl (fun W hW => hW.1)) H0.out ?_
    try simp only [Act.put, List.getElem_toArray, List.getElem_cons_succ, List.getElem_cons_zero, List.setIfInBounds_toArray, List.set_cons_zero, List.set_cons_succ]
    refine wpAnyH_take (i := 4) (v := .agg x.arr) rfl (by kernel_rfl) (by kernel_rfl) (by kernel_rfl) (fun _ _ _ h => h) (yields_run _ rfl (by rfl) rfl (fun W hW => hW.2)) H0.out ?_
    try simp only [Act.put, List.getElem_toArray, List.getElem_cons_succ, List.getElem_cons_zero, List.setIfInBounds_toArray, List.set_cons_zero, List.set_cons_succ]
    refine wpAnyH_ready (rs := [5]) (by kernel_rfl) (by simp) ?_
    refine AllReadyH.cons rfl (fun K hK => ?_) AllReadyH.nil
    go_simp
    go_at_call 30
    refine (IT.out _).mono ?_
    rintro e V1 ⟨rfl, hb1⟩
    have HS1 := Lib.hid (WC.call HS0.out hb1)
    clear hb1
    have H1_ := Lib.hid (CB.out _ HS1.out)
    refine hK.out _ _ H1_.out (fun _ => ?_)
    clear hK K
    try simp only [Act.put, List.getElem_toArray, List.getElem_cons_succ, List.getElem_cons_zero, List.setIfInBounds_toArray, List.set_cons_zero, List.set_cons_succ]
    refine wpAnyH_take (i := 6) (v := .tuple #[.int .i64 T0, .bool true]) rfl (by kernel_rfl) (by kernel_rfl) (by kernel_rfl) (fun _ _ _ h => h) (Or.inl ⟨by rfl, fun W hW => by clear hW; go_simp⟩) H1_.out ?_
    try simp only [Act.put, List.getElem_toArray, List.getElem_cons_succ, List.getElem_cons_zero, List.setIfInBounds_toArray, List.set_cons_zero, List.set_cons_succ]
    refine wpAnyH_take (i := 7) (v := .int .i64 T0) rfl (by kernel_rfl) (by kernel_rfl) (by kernel_rfl) (fun _ _ _ h => h) (Or.inl ⟨by rfl, fun W hW => by clear hW; go_simp⟩) H1_.out ?_
    try simp only [Act.put, List.getElem_toArray, List.getElem_cons_succ, List.getElem_cons_zero, List.setIfInBounds_toArray, List.set_cons_zero, List.set_cons_succ]
    refine wpAnyH_take (i := 8) (v := .bool true) rfl (by kernel_rfl) (by kernel_rfl) (by kernel_rfl) (fun _ _ _ h => h) (Or.inl ⟨by rfl, fun W hW => by clear hW; go_simp⟩) H1_.out ?_
    try simp only [Act.put, List.getElem_toArray, List.getElem_cons_succ, List.getElem_cons_zero, List.setIfInBounds_toArray, List.set_cons_zero, List.set_cons_succ]
    refine wpAnyH_take (i := 9) (v := .int .i64 T0) rfl (by kernel_rfl) (by kernel_rfl) (by kernel_rfl) (fun _ _ _ h => h) (Or.inl ⟨by rfl, fun W hW => by clear hW; go_simp⟩) H1_.out ?_
    try simp only [Act.put, List.getElem_toArray, List.getElem_cons_succ, List.getElem_cons_zero, List.setIfInBounds_toArray, List.set_cons_zero, List.set_cons_succ]
    refine wpAnyH_take (i := 10) (v := .bool true) rfl (by kernel_rfl) (by kernel_rfl) (by kernel_rfl) (fun _ _ _ h => h) (Or.inl ⟨by rfl, fun W hW => by clear hW; go_simp⟩) H1_.out ?_
    try simp only [Act.put, List.getElem_toArray, List.getElem_cons_succ, List.getElem_cons_zero, List.setIfInBounds_toArray, List.set_cons_zero, List.set_cons_succ]
    refine wpAnyH_done (by kernel_rfl) ?_ _
    have h3 := HS1.out
    clear H0 H1_ HS0 HS1 CB
    go_wp2_with (first
      | (have _ := h3; go_at_call 31; refine (HB.out _ (MC.c46 h3)).mono ?_; rintro e W4 ⟨rfl, rfl⟩; clear HB))
    go_ret
    exact ⟨by rw [e1.out]; rfl, by rw [e2.out]; exact h3.tail.tail⟩
  | true =>
  rw [hb] at HB EK
  generalize getC l x = Z at *
  cases hf : (findC l x).isSome with
  | true =>
    rw [hf] at GE EK
    have e1 : Hid (K = 7) := show _ = _ by rw [EK.out]; rfl
    have e2 : Hid (l2 = l) := show _ = _ by rw [EL.out, if_neg (by rw [e1.out]; omega)]
    clear RO EK EL hi hb hf
    go_enter Try.func9, Try.ntmps9
    go_wp2_with (first
      | (refine wpList_box_itW h x _ rfl rfl rfl ?_; clear h; intro W1 h1; generalize W.heap.size = xb at *)
      | (have _ := h1; refine wpList_box_lnW h1 bs _ rfl rfl rfl ?_; clear h1; intro W2 h2; generalize W1.heap.size = yb at *))
    have HS0 := Lib.hid (show MC w W2.drew g b p l ((yb, C 44 (lnA bs)) :: (xb, C 42 x.arr) :: L) from h2.drewN 1)
    have CB := Lib.hid (fun V (h : MC w V g b p l ((yb, C 44 (lnA bs)) :: (xb, C 42 x.arr) :: L)) => show (loadVar 28 ⟨g, 0, none⟩).run Try.prog V = .ok (.agg p.arr) V ∧ (loadVar 42 ⟨xb, 0, none⟩).run Try.prog V = .ok (.agg x.arr) V from ⟨load_pl h.plan, load_itA (h.at2 1 rfl)⟩)
    have H0 := Lib.hid (CB.out _ HS0.out)
    clear h2
    refine wp_region_held_drew (S := fun W => (loadVar 28 ⟨g, 0, none⟩).run Try.prog W = .ok (.agg p.arr) W ∧ (loadVar 42 ⟨xb, 0, none⟩).run Try.prog W = .ok (.agg x.arr) W) (by kernel_rfl) H0.out (fun _ => ?_)
    generalize W2.drew = V0 at *
    refine wpAnyH_take (i := 0) (v := .pointer (some ⟨g, 0, none⟩)) rfl (by kernel_rfl) (by kernel_rfl) (by kernel_rfl) (fun _ _ _ h => h) (Or.inl ⟨by rfl, fun W hW => by clear hW; go_simp⟩) H0.out ?_
    try simp only [Act.put, List.getElem_toArray, List.getElem_cons_succ, List.getElem_cons_zero, List.setIfInBounds_toArray, List.set_cons_zero, List.set_cons_succ]
    refine wpAnyH_take (i := 1) (v := .pointer (some ⟨g, 0, none⟩)) rfl (by kernel_rfl) (by kernel_rfl) (by kernel_rfl) (fun _ _ _ h => h) (Or.inl ⟨by rfl, fun W hW => by clear hW; go_simp⟩) H0.out ?_
    try simp only [Act.put, List.getElem_toArray, List.getElem_cons_succ, List.getElem_cons_zero, List.setIfInBounds_toArray, List.set_cons_zero, List.set_cons_succ]
    refine wpAnyH_take (i := 2) (v := .pointer (some ⟨g, 0, none⟩)) rfl (by kernel_rfl) (by kernel_rfl) (by kernel_rfl) (fun _ _ _ h => h) (Or.inl ⟨by rfl, fun W hW => by clear hW; go_simp⟩) H0.out ?_
    try simp only [Act.put, List.getElem_toArray, List.getElem_cons_succ, List.getElem_cons_zero, List.setIfInBounds_toArray, List.set_cons_zero, List.set_cons_succ]
    refine wpAnyH_take (i := 3) (v := .agg p.arr) rfl (by kernel_rfl) (by kernel_rfl) (by kernel_rfl) (fun _ _ _ h => h) (yields_run _ rfl (by rfl) rfl (fun W hW => hW.1)) H0.out ?_
    try simp only [Act.put, List.getElem_toArray, List.getElem_cons_succ, List.getElem_cons_zero, List.setIfInBounds_toArray, List.set_cons_zero, List.set_cons_succ]
    refine wpAnyH_take (i := 4) (v := .agg x.arr) rfl (by kernel_rfl) (by kernel_rfl) (by kernel_rfl) (fun _ _ _ h => h) (yields_run _ rfl (by rfl) rfl (fun W hW => hW.2)) H0.out ?_
    try simp only [Act.put, List.getElem_toArray, List.getElem_cons_succ, List.getElem_cons_zero, List.setIfInBounds_toArray, List.set_cons_zero, List.set_cons_succ]
    refine wpAnyH_ready (rs := [5]) (by kernel_rfl) (by simp) ?_
    refine AllReadyH.cons rfl (fun K hK => ?_) AllReadyH.nil
    go_simp
    go_at_call 30
    refine (IT.out _).mono ?_
    rintro e V1 ⟨rfl, hb1⟩
    have HS1 := Lib.hid (WC.call HS0.out hb1)
    clear hb1
    have H1_ := Lib.hid (CB.out _ HS1.out)
    refine hK.out _ _ H1_.out (fun _ => ?_)
    clear hK K
    try simp only [Act.put, List.getElem_toArray, List.getElem_cons_succ, List.getElem_cons_zero, List.setIfInBounds_toArray, List.set_cons_zero, List.set_cons_succ]
    refine wpAnyH_take (i := 6) (v := .tuple #[.int .i64 T0, .bool true]) rfl (by kernel_rfl) (by kernel_rfl) (by kernel_rfl) (fun _ _ _ h => h) (Or.inl ⟨by rfl, fun W hW => by clear hW; go_simp⟩) H1_.out ?_
    try simp only [Act.put, List.getElem_toArray, List.getElem_cons_succ, List.getElem_cons_zero, List.setIfInBounds_toArray, List.set_cons_zero, List.set_cons_succ]
    refine wpAnyH_take (i := 7) (v := .int .i64 T0) rfl (by kernel_rfl) (by kernel_rfl) (by kernel_rfl) (fun _ _ _ h => h) (Or.inl ⟨by rfl, fun W hW => by clear hW; go_simp⟩) H1_.out ?_
    try simp only [Act.put, List.getElem_toArray, List.getElem_cons_succ, List.getElem_cons_zero, List.setIfInBounds_toArray, List.set_cons_zero, List.set_cons_succ]
    refine wpAnyH_take (i := 8) (v := .bool true) rfl (by kernel_rfl) (by kernel_rfl) (by kernel_rfl) (fun _ _ _ h => h) (Or.inl ⟨by rfl, fun W hW => by clear hW; go_simp⟩) H1_.out ?_
    try simp only [Act.put, List.getElem_toArray, List.getElem_cons_succ, List.getElem_cons_zero, List.setIfInBounds_toArray, List.set_cons_zero, List.set_cons_succ]
    refine wpAnyH_take (i := 9) (v := .int .i64 T0) rfl (by kernel_rfl) (by kernel_rfl) (by kernel_rfl) (fun _ _ _ h => h) (Or.inl ⟨by rfl, fun W hW => by clear hW; go_simp⟩) H1_.out ?_
    try simp only [Act.put, List.getElem_toArray, List.getElem_cons_succ, List.getElem_cons_zero, List.setIfInBounds_toArray, List.set_cons_zero, List.set_cons_succ]
    refine wpAnyH_take (i := 10) (v := .bool true) rfl (by kernel_rfl) (by kernel_rfl) (by kernel_rfl) (fun _ _ _ h => h) (Or.inl ⟨by rfl, fun W hW => by clear hW; go_simp⟩) H1_.out ?_
    try simp only [Act.put, List.getElem_toArray, List.getElem_cons_succ, List.getElem_cons_zero, List.setIfInBounds_toArray, List.set_cons_zero, List.set_cons_succ]
    refine wpAnyH_done (by kernel_rfl) ?_ _
    have h3 := HS1.out
    clear H0 H1_ HS0 HS1 CB
    have q1 := (at_it (h3.at2 1 rfl) : World.rangeAt _ xb 0 (Elt.cs x))
    go_wp2_with (first
      | (have _ := h3; go_at_call 31; refine (HB.out _ (MC.c46 h3)).mono ?_; rintro e W4 ⟨rfl, rfl⟩; clear HB)
      | (have _ := q1; refine wpList_loadIt (e := x) q1 _ rfl rfl rfl ?_; clear q1)
      | (have _ := h3; go_at_call 19; refine (GE.out _ _ h3).mono ?_; rintro e W5 ⟨rfl, hb5⟩; have h5 := h3.call hb5; clear h3 hb5 GE)
      | (have _ := h5; refine wpList_alloc_cdW h5 rfl rfl ?_; clear h5; intro W6 h6; generalize W5.heap.size = zb at *)
      | (have _ := h6; refine wpList_store_cdW h6 0 Z rfl _ _ rfl rfl rfl rfl ?_; clear h6; intro W7 h7))
    go_ret
    exact ⟨by rw [e1.out]; rfl, by rw [e2.out]; exact h7.tail.tail.tail⟩
  | false =>
  rw [hf] at GE EK
  by_cases hr : roomV p l k = 0
  · rw [hr] at RO
    rw [if_pos hr] at EK
    have e1 : Hid (K = 5) := show _ = _ by rw [EK.out]; rfl
    have e2 : Hid (l2 = l) := show _ = _ by rw [EL.out, if_neg (by rw [e1.out]; omega)]
    clear EK EL hi hb hf hr
    go_enter Try.func9, Try.ntmps9
    go_wp2_with (first
      | (refine wpList_box_itW h x _ rfl rfl rfl ?_; clear h; intro W1 h1; generalize W.heap.size = xb at *)
      | (have _ := h1; refine wpList_box_lnW h1 bs _ rfl rfl rfl ?_; clear h1; intro W2 h2; generalize W1.heap.size = yb at *))
    have HS0 := Lib.hid (show MC w W2.drew g b p l ((yb, C 44 (lnA bs)) :: (xb, C 42 x.arr) :: L) from h2.drewN 1)
    have CB := Lib.hid (fun V (h : MC w V g b p l ((yb, C 44 (lnA bs)) :: (xb, C 42 x.arr) :: L)) => show (loadVar 28 ⟨g, 0, none⟩).run Try.prog V = .ok (.agg p.arr) V ∧ (loadVar 42 ⟨xb, 0, none⟩).run Try.prog V = .ok (.agg x.arr) V from ⟨load_pl h.plan, load_itA (h.at2 1 rfl)⟩)
    have H0 := Lib.hid (CB.out _ HS0.out)
    clear h2
    refine wp_region_held_drew (S := fun W => (loadVar 28 ⟨g, 0, none⟩).run Try.prog W = .ok (.agg p.arr) W ∧ (loadVar 42 ⟨xb, 0, none⟩).run Try.prog W = .ok (.agg x.arr) W) (by kernel_rfl) H0.out (fun _ => ?_)
    generalize W2.drew = V0 at *
    refine wpAnyH_take (i := 0) (v := .pointer (some ⟨g, 0, none⟩)) rfl (by kernel_rfl) (by kernel_rfl) (by kernel_rfl) (fun _ _ _ h => h) (Or.inl ⟨by rfl, fun W hW => by clear hW; go_simp⟩) H0.out ?_
    try simp only [Act.put, List.getElem_toArray, List.getElem_cons_succ, List.getElem_cons_zero, List.setIfInBounds_toArray, List.set_cons_zero, List.set_cons_succ]
    refine wpAnyH_take (i := 1) (v := .pointer (some ⟨g, 0, none⟩)) rfl (by kernel_rfl) (by kernel_rfl) (by kernel_rfl) (fun _ _ _ h => h) (Or.inl ⟨by rfl, fun W hW => by clear hW; go_simp⟩) H0.out ?_
    try simp only [Act.put, List.getElem_toArray, List.getElem_cons_succ, List.getElem_cons_zero, List.setIfInBounds_toArray, List.set_cons_zero, List.set_cons_succ]
    refine wpAnyH_take (i := 2) (v := .pointer (some ⟨g, 0, none⟩)) rfl (by kernel_rfl) (by kernel_rfl) (by kernel_rfl) (fun _ _ _ h => h) (Or.inl ⟨by rfl, fun W hW => by clear hW; go_simp⟩) H0.out ?_
    try simp only [Act.put, List.getElem_toArray, List.getElem_cons_succ, List.getElem_cons_zero, List.setIfInBounds_toArray, List.set_cons_zero, List.set_cons_succ]
    refine wpAnyH_take (i := 3) (v := .agg p.arr) rfl (by kernel_rfl) (by kernel_rfl) (by kernel_rfl) (fun _ _ _ h => h) (yields_run _ rfl (by rfl) rfl (fun W hW => hW.1)) H0.out ?_
    try simp only [Act.put, List.getElem_toArray, List.getElem_cons_succ, List.getElem_cons_zero, List.setIfInBounds_toArray, List.set_cons_zero, List.set_cons_succ]
    refine wpAnyH_take (i := 4) (v := .agg x.arr) rfl (by kernel_rfl) (by kernel_rfl) (by kernel_rfl) (fun _ _ _ h => h) (yields_run _ rfl (by rfl) rfl (fun W hW => hW.2)) H0.out ?_
    try simp only [Act.put, List.getElem_toArray, List.getElem_cons_succ, List.getElem_cons_zero, List.setIfInBounds_toArray, List.set_cons_zero, List.set_cons_succ]
    refine wpAnyH_ready (rs := [5]) (by kernel_rfl) (by simp) ?_
    refine AllReadyH.cons rfl (fun K hK => ?_) AllReadyH.nil
    go_simp
    go_at_call 30
    refine (IT.out _).mono ?_
    rintro e V1 ⟨rfl, hb1⟩
    have HS1 := Lib.hid (WC.call HS0.out hb1)
    clear hb1
    have H1_ := Lib.hid (CB.out _ HS1.out)
    refine hK.out _ _ H1_.out (fun _ => ?_)
    clear hK K
    try simp only [Act.put, List.getElem_toArray, List.getElem_cons_succ, List.getElem_cons_zero, List.setIfInBounds_toArray, List.set_cons_zero, List.set_cons_succ]
    refine wpAnyH_take (i := 6) (v := .tuple #[.int .i64 T0, .bool true]) rfl (by kernel_rfl) (by kernel_rfl) (by kernel_rfl) (fun _ _ _ h => h) (Or.inl ⟨by rfl, fun W hW => by clear hW; go_simp⟩) H1_.out ?_
    try simp only [Act.put, List.getElem_toArray, List.getElem_cons_succ, List.getElem_cons_zero, List.setIfInBounds_toArray, List.set_cons_zero, List.set_cons_succ]
    refine wpAnyH_take (i := 7) (v := .int .i64 T0) rfl (by kernel_rfl) (by kernel_rfl) (by kernel_rfl) (fun _ _ _ h => h) (Or.inl ⟨by rfl, fun W hW => by clear hW; go_simp⟩) H1_.out ?_
    try simp only [Act.put, List.getElem_toArray, List.getElem_cons_succ, List.getElem_cons_zero, List.setIfInBounds_toArray, List.set_cons_zero, List.set_cons_succ]
    refine wpAnyH_take (i := 8) (v := .bool true) rfl (by kernel_rfl) (by kernel_rfl) (by kernel_rfl) (fun _ _ _ h => h) (Or.inl ⟨by rfl, fun W hW => by clear hW; go_simp⟩) H1_.out ?_
    try simp only [Act.put, List.getElem_toArray, List.getElem_cons_succ, List.getElem_cons_zero, List.setIfInBounds_toArray, List.set_cons_zero, List.set_cons_succ]
    refine wpAnyH_take (i := 9) (v := .int .i64 T0) rfl (by kernel_rfl) (by kernel_rfl) (by kernel_rfl) (fun _ _ _ h => h) (Or.inl ⟨by rfl, fun W hW => by clear hW; go_simp⟩) H1_.out ?_
    try simp only [Act.put, List.getElem_toArray, List.getElem_cons_succ, List.getElem_cons_zero, List.setIfInBounds_toArray, List.set_cons_zero, List.set_cons_succ]
    refine wpAnyH_take (i := 10) (v := .bool true) rfl (by kernel_rfl) (by kernel_rfl) (by kernel_rfl) (fun _ _ _ h => h) (Or.inl ⟨by rfl, fun W hW => by clear hW; go_simp⟩) H1_.out ?_
    try simp only [Act.put, List.getElem_toArray, List.getElem_cons_succ, List.getElem_cons_zero, List.setIfInBounds_toArray, List.set_cons_zero, List.set_cons_succ]
    refine wpAnyH_done (by kernel_rfl) ?_ _
    have h3 := HS1.out
    clear H0 H1_ HS0 HS1 CB
    have q1 := (at_it (h3.at2 1 rfl) : World.rangeAt _ xb 0 (Elt.cs x))
    go_wp2_with (first
      | (have _ := h3; go_at_call 31; refine (HB.out _ (MC.c46 h3)).mono ?_; rintro e W4 ⟨rfl, rfl⟩; clear HB)
      | (have _ := q1; refine wpList_loadIt (e := x) q1 _ rfl rfl rfl ?_; clear q1)
      | (have _ := h3; go_at_call 19; refine (GE.out _ _ h3).mono ?_; rintro e W5 ⟨rfl, hb5⟩; have h5 := h3.call hb5; clear h3 hb5 GE)
      | (have _ := h5; refine wpList_alloc_cdW h5 rfl rfl ?_; clear h5; intro W6 h6; generalize W5.heap.size = zb at *)
      | (have _ := h6; refine wpList_store_cdW h6 0 Z rfl _ _ rfl rfl rfl rfl ?_; clear h6; intro W7 h7)
      | (have _ := h7; go_at_call 21; refine (RO.out _ _ h7).mono ?_; rintro e W8 ⟨rfl, j8, rfl⟩; have h8 := h7.drewN j8; clear h7; have q4 : (W7.drewN j8).rangeAt xb 0 (Elt.cs x) := at_it (h8.at2 2 rfl); have q5 : (W7.drewN j8).rangeAt yb 0 (vals bs) := at_ln (h8.at2 1 rfl)))
    go_ret
    exact ⟨by rw [e1.out]; rfl, by rw [e2.out]; exact h8.tail.tail.tail⟩
  · rw [if_neg hr] at EK
    have e1 : Hid (K = 0) := show _ = _ by rw [EK.out]; rfl
    have e2 : Hid (l2 = useL l ⟨x, k, bs, false, hl⟩) := show _ = _ by rw [EL.out, if_pos e1.out]; unfold useL; rw [remL_none (by simpa using hf)]
    have US := Lib.hid (fun V L (h : MC w V g b p l L) => use_any h I ⟨x, k, bs, false, hl⟩ ((hasB_iff p k).1 hb) hn)
    have BU := Lib.hid (built59K x k bs hl)
    have g1 : (roomV p l k == 0) = false := by simpa using hr
    have g2 : (roomV p l k = 0) = False := eq_false hr
    generalize roomV p l k = R at *
    clear EK EL hi hb hf hr
    go_enter Try.func9, Try.ntmps9
    go_wp2_with (first
      | (refine wpList_box_itW h x _ rfl rfl rfl ?_; clear h; intro W1 h1; generalize W.heap.size = xb at *)
      | (have _ := h1; refine wpList_box_lnW h1 bs _ rfl rfl rfl ?_; clear h1; intro W2 h2; generalize W1.heap.size = yb at *))
    have HS0 := Lib.hid (show MC w W2.drew g b p l ((yb, C 44 (lnA bs)) :: (xb, C 42 x.arr) :: L) from h2.drewN 1)
    have CB := Lib.hid (fun V (h : MC w V g b p l ((yb, C 44 (lnA bs)) :: (xb, C 42 x.arr) :: L)) => show (loadVar 28 ⟨g, 0, none⟩).run Try.prog V = .ok (.agg p.arr) V ∧ (loadVar 42 ⟨xb, 0, none⟩).run Try.prog V = .ok (.agg x.arr) V from ⟨load_pl h.plan, load_itA (h.at2 1 rfl)⟩)
    have H0 := Lib.hid (CB.out _ HS0.out)
    clear h2
    refine wp_region_held_drew (S := fun W => (loadVar 28 ⟨g, 0, none⟩).run Try.prog W = .ok (.agg p.arr) W ∧ (loadVar 42 ⟨xb, 0, none⟩).run Try.prog W = .ok (.agg x.arr) W) (by kernel_rfl) H0.out (fun _ => ?_)
    generalize W2.drew = V0 at *
    refine wpAnyH_take (i := 0) (v := .pointer (some ⟨g, 0, none⟩)) rfl (by kernel_rfl) (by kernel_rfl) (by kernel_rfl) (fun _ _ _ h => h) (Or.inl ⟨by rfl, fun W hW => by clear hW; go_simp⟩) H0.out ?_
    try simp only [Act.put, List.getElem_toArray, List.getElem_cons_succ, List.getElem_cons_zero, List.setIfInBounds_toArray, List.set_cons_zero, List.set_cons_succ]
    refine wpAnyH_take (i := 1) (v := .pointer (some ⟨g, 0, none⟩)) rfl (by kernel_rfl) (by kernel_rfl) (by kernel_rfl) (fun _ _ _ h => h) (Or.inl ⟨by rfl, fun W hW => by clear hW; go_simp⟩) H0.out ?_
    try simp only [Act.put, List.getElem_toArray, List.getElem_cons_succ, List.getElem_cons_zero, List.setIfInBounds_toArray, List.set_cons_zero, List.set_cons_succ]
    refine wpAnyH_take (i := 2) (v := .pointer (some ⟨g, 0, none⟩)) rfl (by kernel_rfl) (by kernel_rfl) (by kernel_rfl) (fun _ _ _ h => h) (Or.inl ⟨by rfl, fun W hW => by clear hW; go_simp⟩) H0.out ?_
    try simp only [Act.put, List.getElem_toArray, List.getElem_cons_succ, List.getElem_cons_zero, List.setIfInBounds_toArray, List.set_cons_zero, List.set_cons_succ]
    refine wpAnyH_take (i := 3) (v := .agg p.arr) rfl (by kernel_rfl) (by kernel_rfl) (by kernel_rfl) (fun _ _ _ h => h) (yields_run _ rfl (by rfl) rfl (fun W hW => hW.1)) H0.out ?_
    try simp only [Act.put, List.getElem_toArray, List.getElem_cons_succ, List.getElem_cons_zero, List.setIfInBounds_toArray, List.set_cons_zero, List.set_cons_succ]
    refine wpAnyH_take (i := 4) (v := .agg x.arr) rfl (by kernel_rfl) (by kernel_rfl) (by kernel_rfl) (fun _ _ _ h => h) (yields_run _ rfl (by rfl) rfl (fun W hW => hW.2)) H0.out ?_
    try simp only [Act.put, List.getElem_toArray, List.getElem_cons_succ, List.getElem_cons_zero, List.setIfInBounds_toArray, List.set_cons_zero, List.set_cons_succ]
    refine wpAnyH_ready (rs := [5]) (by kernel_rfl) (by simp) ?_
    refine AllReadyH.cons rfl (fun K hK => ?_) AllReadyH.nil
    go_simp
    go_at_call 30
    refine (IT.out _).mono ?_
    rintro e V1 ⟨rfl, hb1⟩
    have HS1 := Lib.hid (WC.call HS0.out hb1)
    clear hb1
    have H1_ := Lib.hid (CB.out _ HS1.out)
    refine hK.out _ _ H1_.out (fun _ => ?_)
    clear hK K
    try simp only [Act.put, List.getElem_toArray, List.getElem_cons_succ, List.getElem_cons_zero, List.setIfInBounds_toArray, List.set_cons_zero, List.set_cons_succ]
    refine wpAnyH_take (i := 6) (v := .tuple #[.int .i64 T0, .bool true]) rfl (by kernel_rfl) (by kernel_rfl) (by kernel_rfl) (fun _ _ _ h => h) (Or.inl ⟨by rfl, fun W hW => by clear hW; go_simp⟩) H1_.out ?_
    try simp only [Act.put, List.getElem_toArray, List.getElem_cons_succ, List.getElem_cons_zero, List.setIfInBounds_toArray, List.set_cons_zero, List.set_cons_succ]
    refine wpAnyH_take (i := 7) (v := .int .i64 T0) rfl (by kernel_rfl) (by kernel_rfl) (by kernel_rfl) (fun _ _ _ h => h) (Or.inl ⟨by rfl, fun W hW => by clear hW; go_simp⟩) H1_.out ?_
    try simp only [Act.put, List.getElem_toArray, List.getElem_cons_succ, List.getElem_cons_zero, List.setIfInBounds_toArray, List.set_cons_zero, List.set_cons_succ]
    refine wpAnyH_take (i := 8) (v := .bool true) rfl (by kernel_rfl) (by kernel_rfl) (by kernel_rfl) (fun _ _ _ h => h) (Or.inl ⟨by rfl, fun W hW => by clear hW; go_simp⟩) H1_.out ?_
    try simp only [Act.put, List.getElem_toArray, List.getElem_cons_succ, List.getElem_cons_zero, List.setIfInBounds_toArray, List.set_cons_zero, List.set_cons_succ]
    refine wpAnyH_take (i := 9) (v := .int .i64 T0) rfl (by kernel_rfl) (by kernel_rfl) (by kernel_rfl) (fun _ _ _ h => h) (Or.inl ⟨by rfl, fun W hW => by clear hW; go_simp⟩) H1_.out ?_
    try simp only [Act.put, List.getElem_toArray, List.getElem_cons_succ, List.getElem_cons_zero, List.setIfInBounds_toArray, List.set_cons_zero, List.set_cons_succ]
    refine wpAnyH_take (i := 10) (v := .bool true) rfl (by kernel_rfl) (by kernel_rfl) (by kernel_rfl) (fun _ _ _ h => h) (Or.inl ⟨by rfl, fun W hW => by clear hW; go_simp⟩) H1_.out ?_
    try simp only [Act.put, List.getElem_toArray, List.getElem_cons_succ, List.getElem_cons_zero, List.setIfInBounds_toArray, List.set_cons_zero, List.set_cons_succ]
    refine wpAnyH_done (by kernel_rfl) ?_ _
    have h3 := HS1.out
    clear H0 H1_ HS0 HS1 CB
    have q1 := (at_it (h3.at2 1 rfl) : World.rangeAt _ xb 0 (Elt.cs x))
    go_wp2_with (first
      | (have _ := h3; go_at_call 31; refine (HB.out _ (MC.c46 h3)).mono ?_; rintro e W4 ⟨rfl, rfl⟩; clear HB)
      | (have _ := q1; refine wpList_loadIt (e := x) q1 _ rfl rfl rfl ?_; clear q1)
      | (have _ := h3; go_at_call 19; refine (GE.out _ _ h3).mono ?_; rintro e W5 ⟨rfl, hb5⟩; have h5 := h3.call hb5; clear h3 hb5 GE)
      | (have _ := h5; refine wpList_alloc_cdW h5 rfl rfl ?_; clear h5; intro W6 h6; generalize W5.heap.size = zb at *)
      | (have _ := h6; refine wpList_store_cdW h6 0 Z rfl _ _ rfl rfl rfl rfl ?_; clear h6; intro W7 h7)
      | (have _ := h7; go_at_call 21; refine (RO.out _ _ h7).mono ?_; rintro e W8 ⟨rfl, j8, rfl⟩; have h8 := h7.drewN j8; clear h7; have q4 : (W7.drewN j8).rangeAt xb 0 (Elt.cs x) := at_it (h8.at2 2 rfl); have q5 : (W7.drewN j8).rangeAt yb 0 (vals bs) := at_ln (h8.at2 1 rfl))
      | (have _ := q4; refine wpList_loadIt (e := x) q4 _ rfl rfl rfl ?_; clear q4)
      | (have _ := q5; refine wpList_loadLn hl q5 _ rfl rfl rfl ?_; clear q5; refine wpList_build_aq 59 _ rfl rfl (Cd.arr ⟨x, k, bs, false, hl⟩) (by exact BU.out) ?_)
      | (have _ := h8; go_at_call 32; refine (US.out _ _ h8).mono ?_; clear h8; rintro e W9 ⟨rfl, h9⟩))
    go_ret
    exact ⟨by rw [e1.out]; rfl, by rw [e2.out]; exact h9.tail.tail.tail⟩
set_option maxHeartbeats 4000000 in
theorem upd_any (h : MC w W g b p l L) (I : Inv p l) (x : It) (bs : List Nat) (hl : bs.length = 32) (hn : l.length ≤ 1000) :
    Calls Try.prog 11 #[.pointer (some ⟨g, 0, none⟩), .agg x.arr, .agg (lnA bs)] W fun e W' => e = .returned (.int .i64 (drpK l x)) ∧ MC w W' g b p (updL l x bs hl) L := by
  have GE := Lib.hid (fun V L (h : MC w V g b p l L) => get_any h I x)
  cases hf : findC l x with
  | none =>
    have e1 : Hid (drpK l x = 6) := show _ = _ by unfold drpK; rw [hf]; rfl
    have e2 : Hid (updL l x bs hl = l) := show _ = _ by unfold updL; rw [hf]
    rw [hf] at GE
    generalize getC l x = Z at *
    generalize updL l x bs hl = l2 at *
    generalize drpK l x = K at *
    clear hf
    go_enter Try.func11, Try.ntmps11
    go_wp2_with (first
      | (refine wpList_box_itW h x _ rfl rfl rfl ?_; clear h; intro W1 h1; generalize W.heap.size = xb at *)
      | (have _ := h1; refine wpList_box_lnW h1 bs _ rfl rfl rfl ?_; clear h1; intro W2 h2; have q1 : W2.rangeAt xb 0 (Elt.cs x) := at_it (h2.at2 1 rfl); generalize W1.heap.size = yb at *)
      | (have _ := q1; refine wpList_loadIt (e := x) q1 _ rfl rfl rfl ?_; clear q1)
      | (have _ := h2; go_at_call 19; refine (GE.out _ _ h2).mono ?_; rintro e W5 ⟨rfl, hb5⟩; have h5 := h2.call hb5; clear h2 hb5 GE)
      | (have _ := h5; refine wpList_alloc_cdW h5 rfl rfl ?_; clear h5; intro W6 h6; generalize W5.heap.size = zb at *)
      | (have _ := h6; refine wpList_store_cdW h6 0 Z rfl _ _ rfl rfl rfl rfl ?_; clear h6; intro W7 h7; have q5 : W7.rangeAt yb 0 (vals bs) := at_ln (h7.at2 1 rfl)))
    go_ret
    exact ⟨by rw [e1.out]; rfl, by rw [e2.out]; exact h7.tail.tail.tail⟩
  | some c =>
    have e1 : Hid (drpK l x = 0) := show _ = _ by unfold drpK; rw [hf]; rfl
    have e3 : getC l x = c := by unfold getC; rw [hf]; rfl
    rw [e3, hf] at GE
    obtain ⟨Z2, hZ2⟩ : ∃ Z2 : Cd, Z2 = { c with bs := bs, dt := true, hl := hl } := ⟨_, rfl⟩
    have e2 : Hid (updL l x bs hl = useL l Z2) := show _ = _ by unfold updL; rw [hf, hZ2]
    have US := Lib.hid (fun V L (h : MC w V g b p l L) => use_any h I Z2 (by rw [hZ2]; exact I.bk c (findC_some hf).1) hn)
    have EZ := Lib.hid (show ({ ({ c with bs := bs, hl := hl } : Cd) with dt := true } : Cd) = Z2 from hZ2.symm)
    generalize updL l x bs hl = l2 at *
    generalize drpK l x = K at *
    clear hf hZ2 e3 hn
    go_enter Try.func11, Try.ntmps11
    go_wp2_with (first
      | (refine wpList_box_itW h x _ rfl rfl rfl ?_; clear h; intro W1 h1; generalize W.heap.size = xb at *)
      | (have _ := h1; refine wpList_box_lnW h1 bs _ rfl rfl rfl ?_; clear h1; intro W2 h2; have q1 : W2.rangeAt xb 0 (Elt.cs x) := at_it (h2.at2 1 rfl); generalize W1.heap.size = yb at *)
      | (have _ := q1; refine wpList_loadIt (e := x) q1 _ rfl rfl rfl ?_; clear q1)
      | (have _ := h2; go_at_call 19; refine (GE.out _ _ h2).mono ?_; rintro e W5 ⟨rfl, hb5⟩; have h5 := h2.call hb5; clear h2 hb5 GE)
      | (have _ := h5; refine wpList_alloc_cdW h5 rfl rfl ?_; clear h5; intro W6 h6; generalize W5.heap.size = zb at *)
      | (have _ := h6; refine wpList_store_cdW h6 0 c rfl _ _ rfl rfl rfl rfl ?_; clear h6; intro W7 h7; have q5 : W7.rangeAt yb 0 (vals bs) := at_ln (h7.at2 1 rfl))
      | (have _ := q5; refine wpList_loadLn hl q5 _ rfl rfl rfl ?_; clear q5)
      | (have _ := h7; refine wpList_store_lnW h7 0 c rfl bs hl _ _ rfl rfl rfl rfl ?_; clear h7; intro W8 h8)
      | (have _ := h8; refine wpList_store_dtW h8 0 { c with bs := bs, hl := hl } rfl true _ _ rfl rfl rfl rfl ?_; clear h8; intro W9 h9; have q6 : W9.rangeAt zb 0 (Elt.cs Z2) := by rw [← EZ.out]; exact at_cd (h9.at2 0 rfl))
      | (have _ := q6; refine wpList_loadCd (e := Z2) q6 _ rfl rfl rfl ?_; clear q6)
      | (have _ := h9; go_at_call 32; refine (US.out _ _ h9).mono ?_; clear h9; rintro e W10 ⟨rfl, h10⟩))
    go_ret
    exact ⟨by rw [e1.out]; rfl, by rw [e2.out]; exact h10.tail.tail.tail⟩
set_option maxHeartbeats 4000000 in
theorem mov_any (h : MC w W g b p l L) (I : Inv p l) (x : It) (k : Int) (hn : l.length ≤ 1000) :
    Calls Try.prog 13 #[.pointer (some ⟨g, 0, none⟩), .agg x.arr, .int .i64 k] W fun e W' => e = .returned (.int .i64 (movK p l x k)) ∧ MC w W' g b p (movL p l x k) L := by
  have HB := Lib.hid (fun V h => hasBank_any (g := g) (b := b) I.rt k V h)
  have GE := Lib.hid (fun V L (h : MC w V g b p l L) => get_any h I x)
  have RO := Lib.hid (fun V L (h : MC w V g b p l L) => room_any h I.rt k)
  cases hb : hasB p k with
  | false =>
    have e1 : Hid (movK p l x k = 2) := show _ = _ by unfold movK; rw [hb]; rfl
    have e2 : Hid (movL p l x k = l) := show _ = _ by
      unfold movL
      cases findC l x with
      | none => rfl
      | some c => simp only; rw [if_neg (by rw [e1.out]; omega)]
    rw [hb] at HB
    generalize movL p l x k = l2 at *
    generalize movK p l x k = K at *
    clear hb
    go_enter Try.func13, Try.ntmps13
    go_wp2_with (first
      | (refine wpList_box_itW h x _ rfl rfl rfl ?_; clear h; intro W1 h1; have q1 : W1.rangeAt W.heap.size 0 (Elt.cs x) := at_it (h1.at2 0 rfl); generalize W.heap.size = xb at *)
      | (have _ := h1; go_at_call 31; refine (HB.out _ (MC.c46 h1)).mono ?_; rintro e W4 ⟨rfl, rfl⟩; clear HB))
    go_ret
    exact ⟨by rw [e1.out]; rfl, by rw [e2.out]; exact h1.tail⟩
  | true =>
  rw [hb] at HB
  cases hf : findC l x with
  | none =>
    have e1 : Hid (movK p l x k = 6) := show _ = _ by unfold movK; rw [hb, hf]; rfl
    have e2 : Hid (movL p l x k = l) := show _ = _ by unfold movL; rw [hf]
    rw [hf] at GE
    generalize getC l x = c at *
    generalize movL p l x k = l2 at *
    generalize movK p l x k = K at *
    clear hf hb
    go_enter Try.func13, Try.ntmps13
    go_wp2_with (first
      | (refine wpList_box_itW h x _ rfl rfl rfl ?_; clear h; intro W1 h1; have q1 : W1.rangeAt W.heap.size 0 (Elt.cs x) := at_it (h1.at2 0 rfl); generalize W.heap.size = xb at *)
      | (have _ := h1; go_at_call 31; refine (HB.out _ (MC.c46 h1)).mono ?_; rintro e W4 ⟨rfl, rfl⟩; clear HB)
      | (have _ := q1; refine wpList_loadIt (e := x) q1 _ rfl rfl rfl ?_; clear q1)
      | (have _ := h1; go_at_call 19; refine (GE.out _ _ h1).mono ?_; rintro e W5 ⟨rfl, hb5⟩; have h5 := h1.call hb5; clear h1 hb5 GE)
      | (have _ := h5; refine wpList_alloc_cdW h5 rfl rfl ?_; clear h5; intro W6 h6; generalize W5.heap.size = zb at *)
      | (have _ := h6; refine wpList_store_cdW h6 0 c rfl _ _ rfl rfl rfl rfl ?_; clear h6; intro W7 h7; have d2 : W7.cell? ⟨zb, 2, none⟩ = some (.int .i64 c.bk) := h7.cell 0 rfl 2 _ c.at2))
    go_ret
    exact ⟨by rw [e1.out]; rfl, by rw [e2.out]; exact h7.tail.tail⟩
  | some c =>
  have e3 : getC l x = c := by unfold getC; rw [hf]; rfl
  rw [e3, hf] at GE
  obtain ⟨Z2, hZ2⟩ : ∃ Z2 : Cd, Z2 = { c with bk := k } := ⟨_, rfl⟩
  have US := Lib.hid (fun V L (h : MC w V g b p l L) => use_any h I Z2 (by rw [hZ2]; exact (hasB_iff p k).1 hb) hn)
  have EZ := Lib.hid (show ({ c with bk := k } : Cd) = Z2 from hZ2.symm)
  have EK := Lib.hid (show movK p l x k = if c.bk ≠ k ∧ roomV p l k = 0 then 5 else 0 by unfold movK; rw [hb, hf]; rfl)
  have EL := Lib.hid (show movL p l x k = if movK p l x k = 0 then useL l Z2 else l by unfold movL; rw [hf, hZ2])
  generalize movL p l x k = l2 at *
  generalize movK p l x k = K at *
  clear hf hZ2 e3 hn hb
  by_cases hk : c.bk = k
  · have e1 : Hid (K = 0) := show _ = _ by rw [EK.out, if_neg (fun h => h.1 hk)]
    have e2 : Hid (l2 = useL l Z2) := show _ = _ by rw [EL.out, if_pos e1.out]
    have g1 : (c.bk != k) = false := by simp [hk]
    have g2 : (c.bk = k) = True := eq_true hk
    replace hk := Lib.hid hk
    clear EK EL
    go_enter Try.func13, Try.ntmps13
    go_wp2_with (first
      | (refine wpList_box_itW h x _ rfl rfl rfl ?_; clear h; intro W1 h1; have q1 : W1.rangeAt W.heap.size 0 (Elt.cs x) := at_it (h1.at2 0 rfl); generalize W.heap.size = xb at *)
      | (have _ := h1; go_at_call 31; refine (HB.out _ (MC.c46 h1)).mono ?_; rintro e W4 ⟨rfl, rfl⟩; clear HB)
      | (have _ := q1; refine wpList_loadIt (e := x) q1 _ rfl rfl rfl ?_; clear q1)
      | (have _ := h1; go_at_call 19; refine (GE.out _ _ h1).mono ?_; rintro e W5 ⟨rfl, hb5⟩; have h5 := h1.call hb5; clear h1 hb5 GE)
      | (have _ := h5; refine wpList_alloc_cdW h5 rfl rfl ?_; clear h5; intro W6 h6; generalize W5.heap.size = zb at *)
      | (have _ := h6; refine wpList_store_cdW h6 0 c rfl _ _ rfl rfl rfl rfl ?_; clear h6; intro W7 h7; have d2 : W7.cell? ⟨zb, 2, none⟩ = some (.int .i64 c.bk) := h7.cell 0 rfl 2 _ c.at2)
      | (have _ := h7; refine wpList_store_bkW h7 0 c rfl k _ _ rfl rfl rfl rfl ?_; clear h7; intro W9 h9; have q6 : W9.rangeAt zb 0 (Elt.cs Z2) := by rw [← EZ.out]; exact at_cd (h9.at2 0 rfl))
      | (have _ := q6; refine wpList_loadCd (e := Z2) q6 _ rfl rfl rfl ?_; clear q6)
      | (have _ := h9; go_at_call 32; refine (US.out _ _ h9).mono ?_; clear h9; rintro e W10 ⟨rfl, h10⟩))
    go_ret
    exact ⟨by rw [e1.out]; rfl, by rw [e2.out]; exact h10.tail.tail⟩
  have g1 : (c.bk != k) = true := by simpa using hk
  have g2 : (c.bk = k) = False := eq_false hk
  by_cases hr : roomV p l k = 0
  · have e1 : Hid (K = 5) := show _ = _ by rw [EK.out, if_pos ⟨hk, hr⟩]
    have e2 : Hid (l2 = l) := show _ = _ by rw [EL.out, if_neg (by rw [e1.out]; omega)]
    rw [hr] at RO
    clear EK EL
    replace hk := Lib.hid hk
    go_enter Try.func13, Try.ntmps13
    go_wp2_with (first
      | (refine wpList_box_itW h x _ rfl rfl rfl ?_; clear h; intro W1 h1; have q1 : W1.rangeAt W.heap.size 0 (Elt.cs x) := at_it (h1.at2 0 rfl); generalize W.heap.size = xb at *)
      | (have _ := h1; go_at_call 31; refine (HB.out _ (MC.c46 h1)).mono ?_; rintro e W4 ⟨rfl, rfl⟩; clear HB)
      | (have _ := q1; refine wpList_loadIt (e := x) q1 _ rfl rfl rfl ?_; clear q1)
      | (have _ := h1; go_at_call 19; refine (GE.out _ _ h1).mono ?_; rintro e W5 ⟨rfl, hb5⟩; have h5 := h1.call hb5; clear h1 hb5 GE)
      | (have _ := h5; refine wpList_alloc_cdW h5 rfl rfl ?_; clear h5; intro W6 h6; generalize W5.heap.size = zb at *)
      | (have _ := h6; refine wpList_store_cdW h6 0 c rfl _ _ rfl rfl rfl rfl ?_; clear h6; intro W7 h7; have d2 : W7.cell? ⟨zb, 2, none⟩ = some (.int .i64 c.bk) := h7.cell 0 rfl 2 _ c.at2)
      | (have _ := h7; go_at_call 21; refine (RO.out _ _ h7).mono ?_; rintro e W8 ⟨rfl, j8, rfl⟩; have h7b := h7.drewN j8; clear h7 d2))
    go_ret
    exact ⟨by rw [e1.out]; rfl, by rw [e2.out]; exact h7b.tail.tail⟩
  · have e1 : Hid (K = 0) := show _ = _ by rw [EK.out, if_neg (fun h => hr h.2)]
    have e2 : Hid (l2 = useL l Z2) := show _ = _ by rw [EL.out, if_pos e1.out]
    have g3 : (roomV p l k == 0) = false := by simpa using hr
    have g4 : (roomV p l k = 0) = False := eq_false hr
    generalize roomV p l k = R at *
    clear EK EL hr
    replace hk := Lib.hid hk
    go_enter Try.func13, Try.ntmps13
    go_wp2_with (first
      | (refine wpList_box_itW h x _ rfl rfl rfl ?_; clear h; intro W1 h1; have q1 : W1.rangeAt W.heap.size 0 (Elt.cs x) := at_it (h1.at2 0 rfl); generalize W.heap.size = xb at *)
      | (have _ := h1; go_at_call 31; refine (HB.out _ (MC.c46 h1)).mono ?_; rintro e W4 ⟨rfl, rfl⟩; clear HB)
      | (have _ := q1; refine wpList_loadIt (e := x) q1 _ rfl rfl rfl ?_; clear q1)
      | (have _ := h1; go_at_call 19; refine (GE.out _ _ h1).mono ?_; rintro e W5 ⟨rfl, hb5⟩; have h5 := h1.call hb5; clear h1 hb5 GE)
      | (have _ := h5; refine wpList_alloc_cdW h5 rfl rfl ?_; clear h5; intro W6 h6; generalize W5.heap.size = zb at *)
      | (have _ := h6; refine wpList_store_cdW h6 0 c rfl _ _ rfl rfl rfl rfl ?_; clear h6; intro W7 h7; have d2 : W7.cell? ⟨zb, 2, none⟩ = some (.int .i64 c.bk) := h7.cell 0 rfl 2 _ c.at2)
      | (have _ := h7; go_at_call 21; refine (RO.out _ _ h7).mono ?_; rintro e W8 ⟨rfl, j8, rfl⟩; have h7b := h7.drewN j8; clear h7 d2)
      | (have _ := h7b; refine wpList_store_bkW h7b 0 c rfl k _ _ rfl rfl rfl rfl ?_; clear h7b; intro W9 h9; have q6 : W9.rangeAt zb 0 (Elt.cs Z2) := by rw [← EZ.out]; exact at_cd (h9.at2 0 rfl))
      | (have _ := q6; refine wpList_loadCd (e := Z2) q6 _ rfl rfl rfl ?_; clear q6)
      | (have _ := h9; go_at_call 32; refine (US.out _ _ h9).mono ?_; clear h9; rintro e W10 ⟨rfl, h10⟩))
    go_ret
    exact ⟨by rw [e1.out]; rfl, by rw [e2.out]; exact h10.tail.tail⟩
end
end Go.Proofs.Ytnogmfpaipjdaaa
