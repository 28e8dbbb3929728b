/- The law of the order of use. No statement is proved here. -/
import Derived.Test.YtmlepikgiicaiaaOrdKit
namespace Go.Proofs.Ytmlepikgiicaiaa
open Go.RowKit
set_option linter.unusedVariables false
set_option linter.unusedSimpArgs false

def OrRel (w : World) (g b N bs bm : Nat) (s1 s2 : Int) (n : Nat) (i : Value) (wr : World) : Prop :=
  ∃ (k : Nat) (cc : Cs) (l : Prs) (mo : Obj), k ≤ n ∧ i = .int .i64 (k : Nat) ∧ OrdI N cc l (k : Int) ∧ IM mo l ∧ l.length ≤ k ∧ WC w wr g b N cc [(bm, mo), (bs, C 23 #[.int .i64 s1, .int .i64 s2])]
def O2Rel (w : World) (g b N bs bm bk : Nat) (s1 s2 : Int) (cc : Cs) (l : Prs) (mo : Obj) (xs : List Ent) (s i : Value) (wr : World) : Prop :=
  ∃ (j : Nat) (la : Int), j ≤ xs.length ∧ i = .int .i64 (j : Nat) ∧ s = .int .i64 la ∧ (∀ e, xs[j]? = some e → la < (at_ l e.k).getD 0) ∧ WC w wr g b N cc [(bm, mo), (bk, C 3 (iarr (ks xs))), (bs, C 23 #[.int .i64 s1, .int .i64 s2])]
attribute [local irreducible] Cl.arr
set_option maxRecDepth 20000 in
set_option maxHeartbeats 8000000 in
theorem order11_walk (s1 s2 : Int) (A : Option Addr) (n c : Nat) (list : List Cl) (key : Int) (w : World) (hkey : key ≤ 9223372036854775807) (hwf : ∀ x ∈ list, x.wf) (hr : ERow w w.heap.size A n c list) :
    Calls Try.prog 5 #[.agg #[.int .i64 s1, .int .i64 s2], .slice A n c, .int .i64 key] w fun e w' => e = .returned (.bool true) ∧ Below w.heap.size w w' := by
  have SK := Lib.hid (fun W => speaks_any W)
  have hl := hr.len
  have mx := hr.max
  have S0 := St.nil w
  by_cases h100 : 100 < n
  · have q : ((100 : Int) < (n : Int)) = True := eq_true (by omega)
    clear hr
    go_enter Try.func5, Try.ntmps5
    go_wp2_with (first
      | (refine wpList_box_st S0 23 _ rfl rfl #[.int .i64 s1, .int .i64 s2] rfl ?_; clear S0; intro W1 h1 _ _)
      | (have _ := h1; go_at_call 7; refine (SK.out _).mono ?_; rintro e W3 ⟨rfl, hb⟩; have h3 := h1.call hb; clear h1))
    go_ret
    exact ⟨rfl, h3.bel⟩
  have q : ((100 : Int) < (n : Int)) = False := eq_false (by omega)
  have NW := Lib.hid (fun W L (h : St w W L) => new_any h s1 s2)
  have O0 := Lib.hid (OrdI.new (fitN s2) (fitN s1) (fitN_le s1).1)
  have N64 := (fitN_le s2).2
  generalize List.replicate (fitN s1) [] = cz at *
  generalize fitN s2 = N at *
  obtain ⟨b1, o1, hA⟩ := addr_of hr
  replace hA := Lib.hid hA
  have HR := Lib.hid hr
  have HW := Lib.hid hwf
  replace hl := Lib.hid hl
  have n100 : n ≤ 100 := by omega
  clear hr hwf h100
  go_enter Try.func5, Try.ntmps5
  go_wp2_with (first
    | (refine wpList_box_st S0 23 _ rfl rfl #[.int .i64 s1, .int .i64 s2] rfl ?_; clear S0; intro W1 h1 _ _; replace h1 := h1.front; generalize w.heap.size = bs at h1 ⊢)
    | (have _ := h1; go_at_call 7; refine (SK.out _).mono ?_; rintro e W3 ⟨rfl, hb⟩; have h3 := h1.call hb; clear h1 hb SK)
    | (have _ := h3; refine wpList_load_st h3 0 rfl 23 _ (.tmp 3) rfl rfl rfl Try.underlying23 rfl sz23 ?_)
    | (have _ := h3; go_at_call 8; refine (NW.out _ _ h3).mono ?_; clear h3; rintro e W4 ⟨g, b, rfl, h4⟩; clear NW)
    | (have _ := h4; refine wpList_makeM h4 rfl rfl ?_; clear h4; intro W5 mo0 im0 h5; generalize W4.heap.size = bm at *))
  go_loopw [25] (OrRel w g b N bs bm s1 s2 n) (fun i _ => n - (intOf i).toNat)
  case atStart => exact ⟨0, cz, [], mo0, by omega, rfl, O0.out, im0, by simp, h5⟩
  case round =>
    obtain ⟨k, cc, l, mo, hk, rfl, ord, im, ll, h6⟩ := hrel
    clear h5 O0 im0
    by_cases hlt : k < n
    · have g1 : ((k : Int) < (n : Int)) = True := eq_true (by omega)
      have hk2 : k < list.length := by have := hl.out; omega
      have hx : list[k]? = some list[k] := List.getElem?_eq_getElem hk2
      generalize list[k] = x at *
      have hA2 := hA.out (by omega)
      subst hA2
      obtain ⟨hb1, r1⟩ := at_cl HR.out k x hx
      have xk : x.k ≤ 9223372036854775807 := HW.out x (List.mem_of_getElem? hx)
      have r1' := Lib.hid (show wr.rangeAt b1 (o1 + k * 3) (Elt.cs x) from rangeAt_keep r1 (h6.bel.block _ hb1))
      replace ord := Lib.hid ord
      replace im := Lib.hid im
      replace ll := Lib.hid ll
      clear r1 hx hk2 hb1
      by_cases ho : x.o = 0
      · cases hR : room N cc x.k with
        | true =>
          have q3 : (x.o == 0) = true := by simpa using ho
          have q4 : (x.o = 0) = True := eq_true ho
          have SE := Lib.hid (fun W L (h : WC w W g b N cc L) => set_any h x.k x.v xk N64 (drop_len ord.out.inv N64 x.k))
          have hK : setK N cc x.k = 0 := by have := setK_room N cc x.k; rw [hR] at this; simpa using this
          have hC : setC N cc x.k x.v = putC cc x.k x.v := by unfold setC; rw [if_neg (by have := (drop_room ord.out.inv hR).1; omega), if_pos hR]
          have WF := Lib.hid (wf_nn (drop_room ord.out.inv hR).1 xk)
          have NEXT := Lib.hid (fun l' hl => show OrdI N (putC cc x.k x.v) l' ((k + 1 : Nat) : Int) from by have := ord.out.put (l' := l') hR x.v hl; push_cast; exact this)
          rw [hK, hC] at SE
          clear hK hC hR
          generalize putC cc x.k x.v = c2 at *
          go_wp2_with (first
            | (refine wpList_loadC (e := x) r1'.out _ rfl rfl rfl ?_)
            | (have _ := h6; refine wpList_alloc_wc h6 31 rfl rfl _ _ zero31 rfl ?_; clear h6; intro X1 h7 _; generalize wr.heap.size = bx at *)
            | (have _ := h7; refine wpList_store_wc (arr' := x.arr) h7 31 _ _ rfl rfl rfl rfl (by rw [cl_size]; exact sz31) (by rw [cl_size]; rfl) (cl_one x) ?_; clear h7; intro X2 h8; have d0 := h8.cell 0 rfl 0 (.int .i64 x.o) (cl_get0 x); have d1 := h8.cell 0 rfl 1 (.int .i64 x.k) (cl_get1 x); have d2 := h8.cell 0 rfl 2 (.int .i64 x.v) (cl_get2 x))
            | (have _ := h8; go_at_call 10; refine (SE.out _ _ h8).mono ?_; clear h8 d0 d1 d2; rintro e X3 ⟨rfl, h9⟩; have d1 := h9.cell 0 rfl 1 (.int .i64 x.k) (cl_get1 x))
            | (have _ := h9; refine wpList_update (h9.perm (List.Perm.swap _ _ _)) im.out WF.out _ _ _ ((k : Int) + 1) rfl rfl rfl rfl rfl ?_; clear h9 d1; intro X4 mo' l' im' hat' hlen' h10))
          go_roundw
          case rel => exact ⟨k + 1, _, l', mo', by omega, by go_num, NEXT.out l' hat', im', by have := ll.out; omega, h10.sub ((List.sublist_cons_self _ _).cons_cons _)⟩
          case measure => simp [intOf]; omega
        | false =>
          have q3 : (x.o == 0) = true := by simpa using ho
          have q4 : (x.o = 0) = True := eq_true ho
          have SE := Lib.hid (fun W L (h : WC w W g b N cc L) => set_any h x.k x.v xk N64 (drop_len ord.out.inv N64 x.k))
          have hK : (setK N cc x.k == 0) = false := by rw [setK_room, hR]
          have hC : setC N cc x.k x.v = cc := by unfold setC; rw [hR]; split <;> rfl
          have NEXT := Lib.hid (show OrdI N cc l ((k + 1 : Nat) : Int) from by have := ord.out.skip; push_cast; exact this)
          rw [hC] at SE
          generalize setK N cc x.k = E at *
          have hK2 : (E = 0) = False := eq_false (by simpa using hK)
          clear hC hR
          go_wp2_with (first
            | (refine wpList_loadC (e := x) r1'.out _ rfl rfl rfl ?_)
            | (have _ := h6; refine wpList_alloc_wc h6 31 rfl rfl _ _ zero31 rfl ?_; clear h6; intro X1 h7 _; generalize wr.heap.size = bx at *)
            | (have _ := h7; refine wpList_store_wc (arr' := x.arr) h7 31 _ _ rfl rfl rfl rfl (by rw [cl_size]; exact sz31) (by rw [cl_size]; rfl) (cl_one x) ?_; clear h7; intro X2 h8; have d0 := h8.cell 0 rfl 0 (.int .i64 x.o) (cl_get0 x); have d1 := h8.cell 0 rfl 1 (.int .i64 x.k) (cl_get1 x); have d2 := h8.cell 0 rfl 2 (.int .i64 x.v) (cl_get2 x))
            | (have _ := h8; go_at_call 10; refine (SE.out _ _ h8).mono ?_; clear h8 d0 d1 d2; rintro e X3 ⟨rfl, h9⟩; have d1 := h9.cell 0 rfl 1 (.int .i64 x.k) (cl_get1 x)))
          go_roundw
          case rel => exact ⟨k + 1, _, l, mo, by omega, by go_num, NEXT.out, im.out, by have := ll.out; omega, h9.tail⟩
          case measure => simp [intOf]; omega
      · by_cases ho1 : x.o = 1
        · cases hO : getO cc x.k with
          | true =>
            have q3 : (x.o == 0) = false := by simpa using ho
            have q4 : (x.o = 0) = False := eq_false ho
            have q5 : (x.o == 1) = true := by simpa using ho1
            have q6 : (x.o = 1) = True := eq_true ho1
            have DR := Lib.hid (fun W L (h : WC w W g b N cc L) => drop_any h x.k xk)
            have WF := Lib.hid (wf_nn (getO_nn hO) xk)
            have NEXT := Lib.hid (fun l' hl => show OrdI N (dropC cc x.k) l' ((k + 1 : Nat) : Int) from by have := ord.out.drop (l' := l') hO hl; push_cast; exact this)
            rw [hO] at DR
            clear hO
            generalize dropC cc x.k = c2 at *
            go_wp2_with (first
              | (refine wpList_loadC (e := x) r1'.out _ rfl rfl rfl ?_)
              | (have _ := h6; refine wpList_alloc_wc h6 31 rfl rfl _ _ zero31 rfl ?_; clear h6; intro X1 h7 _; generalize wr.heap.size = bx at *)
              | (have _ := h7; refine wpList_store_wc (arr' := x.arr) h7 31 _ _ rfl rfl rfl rfl (by rw [cl_size]; exact sz31) (by rw [cl_size]; rfl) (cl_one x) ?_; clear h7; intro X2 h8; have d0 := h8.cell 0 rfl 0 (.int .i64 x.o) (cl_get0 x); have d1 := h8.cell 0 rfl 1 (.int .i64 x.k) (cl_get1 x); have d2 := h8.cell 0 rfl 2 (.int .i64 x.v) (cl_get2 x))
              | (have _ := h8; go_at_call 12; refine (DR.out _ _ h8).mono ?_; clear h8 d0 d1 d2; rintro e X3 ⟨rfl, h9⟩; have d1 := h9.cell 0 rfl 1 (.int .i64 x.k) (cl_get1 x))
              | (have _ := h9; refine wpList_delete (h9.perm (List.Perm.swap _ _ _)) im.out WF.out _ _ rfl rfl rfl rfl ?_; clear h9 d1; intro X4 mo' l' im' hat' hlen' h10))
            go_roundw
            case rel => exact ⟨k + 1, _, l', mo', by omega, by go_num, NEXT.out l' hat', im', by have := ll.out; omega, h10.sub ((List.sublist_cons_self _ _).cons_cons _)⟩
            case measure => simp [intOf]; omega
          | false =>
            have q3 : (x.o == 0) = false := by simpa using ho
            have q4 : (x.o = 0) = False := eq_false ho
            have q5 : (x.o == 1) = true := by simpa using ho1
            have q6 : (x.o = 1) = True := eq_true ho1
            have DR := Lib.hid (fun W L (h : WC w W g b N cc L) => drop_any h x.k xk)
            have NEXT := Lib.hid (show OrdI N cc l ((k + 1 : Nat) : Int) from by have := ord.out.skip; push_cast; exact this)
            rw [hO, drop_none hO] at DR
            clear hO
            go_wp2_with (first
              | (refine wpList_loadC (e := x) r1'.out _ rfl rfl rfl ?_)
              | (have _ := h6; refine wpList_alloc_wc h6 31 rfl rfl _ _ zero31 rfl ?_; clear h6; intro X1 h7 _; generalize wr.heap.size = bx at *)
              | (have _ := h7; refine wpList_store_wc (arr' := x.arr) h7 31 _ _ rfl rfl rfl rfl (by rw [cl_size]; exact sz31) (by rw [cl_size]; rfl) (cl_one x) ?_; clear h7; intro X2 h8; have d0 := h8.cell 0 rfl 0 (.int .i64 x.o) (cl_get0 x); have d1 := h8.cell 0 rfl 1 (.int .i64 x.k) (cl_get1 x); have d2 := h8.cell 0 rfl 2 (.int .i64 x.v) (cl_get2 x))
              | (have _ := h8; go_at_call 12; refine (DR.out _ _ h8).mono ?_; clear h8 d0 d1 d2; rintro e X3 ⟨rfl, h9⟩; have d1 := h9.cell 0 rfl 1 (.int .i64 x.k) (cl_get1 x)))
            go_roundw
            case rel => exact ⟨k + 1, _, l, mo, by omega, by go_num, NEXT.out, im.out, by have := ll.out; omega, h9.tail⟩
            case measure => simp [intOf]; omega
        · cases hO : getO cc x.k with
          | true =>
            have q3 : (x.o == 0) = false := by simpa using ho
            have q4 : (x.o = 0) = False := eq_false ho
            have q5 : (x.o == 1) = false := by simpa using ho1
            have q6 : (x.o = 1) = False := eq_false ho1
            have TO := Lib.hid (fun W L (h : WC w W g b N cc L) => touch_any h x.k xk N64 (drop_len ord.out.inv N64 x.k))
            have WF := Lib.hid (wf_nn (getO_nn hO) xk)
            have hC : touchC cc x.k = putC cc x.k (getV cc x.k) := by unfold touchC; rw [if_pos hO]
            have NEXT := Lib.hid (fun l' hl => show OrdI N (putC cc x.k (getV cc x.k)) l' ((k + 1 : Nat) : Int) from by have := ord.out.put (l' := l') (getO_room hO) (getV cc x.k) hl; push_cast; exact this)
            rw [hO, hC] at TO
            clear hO hC
            generalize putC cc x.k (getV cc x.k) = c2 at *
            go_wp2_with (first
              | (refine wpList_loadC (e := x) r1'.out _ rfl rfl rfl ?_)
              | (have _ := h6; refine wpList_alloc_wc h6 31 rfl rfl _ _ zero31 rfl ?_; clear h6; intro X1 h7 _; generalize wr.heap.size = bx at *)
              | (have _ := h7; refine wpList_store_wc (arr' := x.arr) h7 31 _ _ rfl rfl rfl rfl (by rw [cl_size]; exact sz31) (by rw [cl_size]; rfl) (cl_one x) ?_; clear h7; intro X2 h8; have d0 := h8.cell 0 rfl 0 (.int .i64 x.o) (cl_get0 x); have d1 := h8.cell 0 rfl 1 (.int .i64 x.k) (cl_get1 x); have d2 := h8.cell 0 rfl 2 (.int .i64 x.v) (cl_get2 x))
              | (have _ := h8; go_at_call 14; refine (TO.out _ _ h8).mono ?_; clear h8 d0 d1 d2; rintro e X3 ⟨rfl, h9⟩; have d1 := h9.cell 0 rfl 1 (.int .i64 x.k) (cl_get1 x))
              | (have _ := h9; refine wpList_update (h9.perm (List.Perm.swap _ _ _)) im.out WF.out _ _ _ ((k : Int) + 1) rfl rfl rfl rfl rfl ?_; clear h9 d1; intro X4 mo' l' im' hat' hlen' h10))
            go_roundw
            case rel => exact ⟨k + 1, _, l', mo', by omega, by go_num, NEXT.out l' hat', im', by have := ll.out; omega, h10.sub ((List.sublist_cons_self _ _).cons_cons _)⟩
            case measure => simp [intOf]; omega
          | false =>
            have q3 : (x.o == 0) = false := by simpa using ho
            have q4 : (x.o = 0) = False := eq_false ho
            have q5 : (x.o == 1) = false := by simpa using ho1
            have q6 : (x.o = 1) = False := eq_false ho1
            have TO := Lib.hid (fun W L (h : WC w W g b N cc L) => touch_any h x.k xk N64 (drop_len ord.out.inv N64 x.k))
            have hC : touchC cc x.k = cc := by unfold touchC; rw [hO]; rfl
            have NEXT := Lib.hid (show OrdI N cc l ((k + 1 : Nat) : Int) from by have := ord.out.skip; push_cast; exact this)
            rw [hO, hC] at TO
            clear hO hC
            go_wp2_with (first
              | (refine wpList_loadC (e := x) r1'.out _ rfl rfl rfl ?_)
              | (have _ := h6; refine wpList_alloc_wc h6 31 rfl rfl _ _ zero31 rfl ?_; clear h6; intro X1 h7 _; generalize wr.heap.size = bx at *)
              | (have _ := h7; refine wpList_store_wc (arr' := x.arr) h7 31 _ _ rfl rfl rfl rfl (by rw [cl_size]; exact sz31) (by rw [cl_size]; rfl) (cl_one x) ?_; clear h7; intro X2 h8; have d0 := h8.cell 0 rfl 0 (.int .i64 x.o) (cl_get0 x); have d1 := h8.cell 0 rfl 1 (.int .i64 x.k) (cl_get1 x); have d2 := h8.cell 0 rfl 2 (.int .i64 x.v) (cl_get2 x))
              | (have _ := h8; go_at_call 14; refine (TO.out _ _ h8).mono ?_; clear h8 d0 d1 d2; rintro e X3 ⟨rfl, h9⟩; have d1 := h9.cell 0 rfl 1 (.int .i64 x.k) (cl_get1 x)))
            go_roundw
            case rel => exact ⟨k + 1, _, l, mo, by omega, by go_num, NEXT.out, im.out, by have := ll.out; omega, h9.tail⟩
            case measure => simp [intOf]; omega
    · obtain rfl : k = n := by omega
      have g1 : ((k : Int) < (k : Int)) = False := eq_false (by omega)
      have bl := (ord.inv.sof key).1
      have OL := Lib.hid (fun W L (h : WC w W g b N cc L) => oldest_any h key hkey (by omega))
      have RI := Lib.hid (fun i e he => ord.rises key i e he)
      have CN := Lib.hid (ord.count im.nodup)
      have KA := Lib.hid (fun W L (h : WC w W g b N cc L) => keysall_any h (fun xs hx => by
        obtain ⟨i, hi⟩ := List.getElem?_of_mem hx
        have := (ord.inv.each i xs hi).1
        omega))
      have FND := Lib.hid (fun (i : Nat) (e : Ent) (he : (sof cc key)[i]? = some e) => show ∃ t, at_ l e.k = some t from by
        have := ord.rises key i e he
        cases h : at_ l e.k with
        | none => rw [h] at this; simp at this
        | some t => exact ⟨t, rfl⟩)
      have im2 := Lib.hid im
      generalize sof cc key = xs at *
      replace ord := Lib.hid ord
      go_wp2_with (have _ := h6; go_at_call 19; refine (OL.out _ _ h6).mono ?_; clear h6; rintro e X1 ⟨bk, rfl, h7⟩)
      replace h7 : WC w X1 g b N cc [(bm, mo), (bk, C 3 (iarr (ks xs))), (bs, C 23 #[.int .i64 s1, .int .i64 s2])] := h7.perm (List.Perm.swap _ _ _)
      generalize hln : xs.length = LN at *
      replace hln := Lib.hid hln
      go_loopw [12, 65] (O2Rel w g b N bs bm bk s1 s2 cc l mo xs) (fun _ i _ => LN - (intOf i).toNat)
      case atStart => exact ⟨0, 0, by omega, rfl, rfl, fun e he => by have := (RI.out 0 e he).1; omega, h7⟩
      case round =>
        obtain ⟨j, la, hj, rfl, rfl, hla, h8⟩ := hrel
        rw [hln.out] at hj
        clear h7
        by_cases hlt2 : j < LN
        · have g2 : ((j : Int) < (LN : Int)) = True := eq_true (by omega)
          have hj2 : j < xs.length := by have := hln.out; omega
          have hx : xs[j]? = some xs[j] := List.getElem?_eq_getElem hj2
          generalize xs[j] = e at *
          have d0 := h8.cell 1 rfl j (.int .i64 e.k) (iarr_get _ _ _ (by simp [ks, hx]))
          obtain ⟨t, ht⟩ := FND.out j e hx
          have WF := Lib.hid (im2.out.wf ht)
          have r3 := (RI.out j e hx).2.2.2
          have h9 := hla e hx
          have hV : (at_ l e.k).getD 0 = t := by rw [ht]; rfl
          rw [hV] at h9 r3
          have q2 : (t ≤ la) = False := eq_false (by omega)
          have q3 : decide (t ≤ la) = false := decide_eq_false (by omega)
          replace hV := Lib.hid hV
          replace r3 := Lib.hid r3
          clear h9 ht hla hj2 hx
          go_wp2_with (have _ := h8; refine wpList_look h8 im2.out WF.out _ _ rfl rfl rfl rfl t hV.out ?_)
          go_roundw
          case rel => exact ⟨j + 1, t, by have := hln.out; omega, by go_num, rfl, r3.out, h8⟩
          case measure => simp [intOf]; omega
        · obtain rfl : j = LN := by omega
          have g2 : ((j : Int) < (j : Int)) = False := eq_false (by omega)
          go_wp2_with (first
            | (have _ := h8; go_at_call 21; refine (KA.out _ _ h8).mono ?_; clear h8; rintro e X2 ⟨v, M, rfl, hr, h9⟩; obtain ⟨A9, p9, rfl, _⟩ := hr.form; rw [srt_length, CN.out])
            | (have _ := h9; refine wpList_lenM (h9.st.at_ (bm, mo) (List.mem_append_right M List.mem_cons_self)) im2.out _ rfl rfl rfl ?_))
          go_ret
          exact ⟨rfl, h9.bel⟩
end Go.Proofs.Ytmlepikgiicaiaa
