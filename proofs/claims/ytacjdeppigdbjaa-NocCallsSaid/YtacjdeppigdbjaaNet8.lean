/- What is asked of a net, and what it answers, for any links; the document's example. No statement is proved here. -/
import Derived.Test.YtacjdeppigdbjaaNet7
namespace Go.Proofs.Ytacjdeppigdbjaa
open Go.RowKit
set_option linter.unusedVariables false
set_option linter.unusedSimpArgs false

/-- A link's number. -/
def idxL (n : Nat) (o : Lk) : Nat := idx n o.a.toNat o.b.toNat o.d.toNat
def hasO (n : Nat) (o : Lk) : Bool := hasL n o.a o.b o.d
def roomOf (n R : Nat) (c : Nat → List Msg) (o : Lk) : Int := if hasO n o then (R : Int) - ((c (idxL n o)).length : Nat) else 0
def allOf (n : Nat) (c : Nat → List Msg) (o : Lk) : List Msg := if hasO n o then c (idxL n o) else []
def lkOf (a : Int) (m : Msg) : Lk := ⟨a, m.fr, m.to⟩
def sendOk (n R : Nat) (c : Nat → List Msg) (a : Int) (m : Msg) : Bool := hasO n (lkOf a m) && decide ((c (idxL n (lkOf a m))).length < R)
def sendC (n R : Nat) (c : Nat → List Msg) (a : Int) (m : Msg) : Nat → List Msg := if sendOk n R c a m then upd c (idxL n (lkOf a m)) (c (idxL n (lkOf a m)) ++ [m]) else c
def sendK (n R : Nat) (c : Nat → List Msg) (a : Int) (m : Msg) : Int := if hasO n (lkOf a m) then (if (c (idxL n (lkOf a m))).length < R then 0 else 5) else 2
theorem has_nat {n : Nat} {o : Lk} (h : hasO n o = true) : ∃ a b d : Nat, o = ⟨(a : Int), (b : Int), (d : Int)⟩ ∧ a < 3 ∧ b < n ∧ d < n ∧ idxL n o = idx n a b d := by
  obtain ⟨x, y, z⟩ := o
  obtain ⟨h1, h2, h3, h4, h5, h6⟩ := hasL_iff.1 h
  simp only at h1 h2 h3 h4 h5 h6
  refine ⟨x.toNat, y.toNat, z.toNat, ?_, by omega, by omega, by omega, rfl⟩
  rw [Int.toNat_of_nonneg h1, Int.toNat_of_nonneg h3, Int.toNat_of_nonneg h5]
theorem idx_inj {n a b d a' b' d' : Nat} (hb : b < n) (hd : d < n) (hb' : b' < n) (hd' : d' < n) (h : idx n a b d = idx n a' b' d') : a = a' ∧ b = b' ∧ d = d' := by
  unfold idx at h
  have hn : 0 < n := by omega
  have e1 : d = d' := by
    have h1 : ((a * n + b) * n + d) % n = d := by rw [Nat.mul_comm, Nat.mul_add_mod]; exact Nat.mod_eq_of_lt hd
    have h2 : ((a' * n + b') * n + d') % n = d' := by rw [Nat.mul_comm, Nat.mul_add_mod]; exact Nat.mod_eq_of_lt hd'
    rw [← h1, ← h2, h]
  have e2 : a * n + b = a' * n + b' := by
    subst e1
    exact Nat.eq_of_mul_eq_mul_right hn (by omega)
  have e3 : b = b' := by
    have h1 : (a * n + b) % n = b := by rw [Nat.mul_comm, Nat.mul_add_mod]; exact Nat.mod_eq_of_lt hb
    have h2 : (a' * n + b') % n = b' := by rw [Nat.mul_comm, Nat.mul_add_mod]; exact Nat.mod_eq_of_lt hb'
    rw [← h1, ← h2, e2]
  subst e3
  exact ⟨Nat.eq_of_mul_eq_mul_right hn (by omega), rfl, e1⟩
theorem idxL_inj {n : Nat} {o o' : Lk} (h : hasO n o = true) (h' : hasO n o' = true) (he : idxL n o = idxL n o') : o = o' := by
  obtain ⟨a, b, d, rfl, _, hb, hd, e1⟩ := has_nat h
  obtain ⟨a', b', d', rfl, _, hb', hd', e2⟩ := has_nat h'
  rw [e1, e2] at he
  obtain ⟨rfl, rfl, rfl⟩ := idx_inj hb hd hb' hd' he
  rfl
/-- What is put on one link leaves all others as they are. -/
theorem all_other {n R : Nat} {c : Nat → List Msg} {a : Int} {m : Msg} {o : Lk} (h : lkOf a m ≠ o) : allOf n (sendC n R c a m) o = allOf n c o ∧ roomOf n R (sendC n R c a m) o = roomOf n R c o := by
  unfold allOf roomOf
  by_cases ho : hasO n o = true
  · rw [if_pos ho, if_pos ho, if_pos ho, if_pos ho]
    unfold sendC
    split
    · rename_i hk
      have hl : hasO n (lkOf a m) = true := by unfold sendOk at hk; exact (Bool.and_eq_true_iff.1 hk).1
      unfold upd
      rw [if_neg (fun e => h (idxL_inj hl ho e.symm))]
      exact ⟨rfl, rfl⟩
    · exact ⟨rfl, rfl⟩
  · rw [if_neg ho, if_neg ho, if_neg ho, if_neg ho]; exact ⟨rfl, rfl⟩
theorem all_same_link {n R : Nat} {c : Nat → List Msg} {a : Int} {m : Msg} {o : Lk} (h : lkOf a m = o) (hk : sendOk n R c a m = true) : sendK n R c a m = 0 ∧ (allOf n (sendC n R c a m) o).length = (allOf n c o).length + 1 ∧ roomOf n R (sendC n R c a m) o = roomOf n R c o - 1 := by
  subst h
  have h0 := hk
  unfold sendOk at hk
  obtain ⟨h1, h2⟩ := Bool.and_eq_true_iff.1 hk
  have h3 := of_decide_eq_true h2
  unfold sendK allOf roomOf sendC
  rw [if_pos h1, if_pos h3, if_pos h1, if_pos h1, if_pos h1, if_pos h1, if_pos h0]
  unfold upd
  rw [if_pos rfl]
  refine ⟨rfl, by simp, ?_⟩
  simp only [List.length_append, List.length_cons, List.length_nil]
  push_cast
  omega
theorem send_no_k {n R : Nat} {c : Nat → List Msg} {a : Int} {m : Msg} (hk : ¬ sendOk n R c a m = true) : sendK n R c a m = 5 ∨ sendK n R c a m = 2 := by
  unfold sendOk at hk
  unfold sendK
  by_cases h1 : hasO n (lkOf a m) = true
  · rw [if_pos h1]
    rw [h1, Bool.true_and] at hk
    rw [if_neg (fun h => hk (decide_eq_true h))]
    exact .inl rfl
  · rw [if_neg h1]; exact .inr rfl
section
variable {w W : World} {g q u n R : Nat} {ps : List Nat} {c : Nat → List Msg} {L : Blks}
theorem NX.mem (h : NX w W g q u n R ps c L) {b : Nat} {t : TypeId} {arr : Array Value} (hm : (b, C t arr) ∈ L) : At W b t arr := h.st.at_ _ hm
theorem nroom_any (h : NX w W g q u n R ps c L) (o : Lk) :
    Calls Try.prog 34 #[.pointer (some ⟨g, 0, none⟩), .agg #[.int .i64 o.a, .int .i64 o.b, .int .i64 o.d]] W fun e W' => e = .returned (.int .i64 (roomOf n R c o)) ∧ NX w W' g q u n R ps c L := by
  unfold roomOf
  by_cases ho : hasO n o = true
  · rw [if_pos ho]
    obtain ⟨a, b, d, rfl, ha, hb, hd, e⟩ := has_nat ho
    rw [e]
    exact nroom_yes h a b d ha hb hd
  · rw [if_neg ho]
    exact nroom_no h o.a o.b o.d (by simpa [hasO] using ho)
/-- A slice value that All has answered. -/
def AllV (v : Value) (xs : List Msg) (M : Blks) : Prop := ∃ A, v = .slice A xs.length xs.length ∧ ((A = none ∧ xs = [] ∧ M = []) ∨ ∃ br, A = some ⟨br, 0, none⟩ ∧ M = [(br, C 31 (marr xs))])
theorem nall_any (h : NX w W g q u n R ps c L) (o : Lk) :
    Calls Try.prog 35 #[.pointer (some ⟨g, 0, none⟩), .agg #[.int .i64 o.a, .int .i64 o.b, .int .i64 o.d]] W fun e W' => ∃ A M, e = .returned (.slice A (allOf n c o).length (allOf n c o).length) ∧ AllV (.slice A (allOf n c o).length (allOf n c o).length) (allOf n c o) M ∧ NX w W' g q u n R ps c (M ++ L) := by
  unfold allOf
  by_cases ho : hasO n o = true
  · rw [if_pos ho]
    obtain ⟨a, b, d, rfl, ha, hb, hd, e⟩ := has_nat ho
    rw [e]
    refine (nall_yes h a b d ha hb hd).mono ?_
    rintro e W' ⟨v, br, rfl, rfl, h'⟩
    exact ⟨_, [_], rfl, ⟨_, rfl, .inr ⟨br, rfl, rfl⟩⟩, h'⟩
  · rw [if_neg ho]
    refine (nall_no h o.a o.b o.d (by simpa [hasO] using ho)).mono ?_
    rintro e W' ⟨rfl, h'⟩
    exact ⟨none, [], rfl, ⟨none, rfl, .inl ⟨rfl, rfl, rfl⟩⟩, h'⟩
theorem AllV.row {A : Option Addr} {N : Nat} {xs : List Msg} {M : Blks} (hv : AllV (.slice A N N) xs M) (h : NX w W g q u n R ps c L) (hM : ∀ x ∈ M, x ∈ L) (hl : xs.length ≤ 100000) : xs.length = N ∧ ERow W W.heap.size A N N xs := by
  obtain ⟨A', e, hc⟩ := hv
  injection e with e1 e2 e3
  subst e1; subst e2
  rcases hc with ⟨rfl, rfl, rfl⟩ | ⟨br, rfl, rfl⟩
  · exact ⟨rfl, ERow.nil_ _ _⟩
  · exact ⟨rfl, (h.mem (hM _ (by simp))).mrow _ _ rfl (Nat.le_refl _) (by unfold maxLen; omega)⟩
theorem nsend_any (h : NX w W g q u n R ps c L) (a : Int) (m : Msg) :
    Calls Try.prog 27 #[.pointer (some ⟨g, 0, none⟩), .int .i64 a, .agg m.arr] W fun e W' => ∃ ps', e = .returned (.int .i64 (sendK n R c a m)) ∧ NX w W' g q u n R ps' (sendC n R c a m) L := by
  unfold sendK sendC sendOk
  by_cases ho : hasO n (lkOf a m) = true
  · rw [if_pos ho, ho, Bool.true_and]
    obtain ⟨x, y, z, e0, ha, hb, hd, e⟩ := has_nat ho
    rw [e]
    unfold lkOf at e0
    injection e0 with e1 e2 e3
    subst e1
    obtain ⟨p, hp⟩ := h.ptr (idx_lt ha hb hd)
    by_cases hl : (c (idx n x y z)).length < R
    · rw [if_pos hl, decide_eq_true hl, if_pos rfl]
      by_cases hpu : p = u
      · subst hpu
        refine (nsend_u_ok h x y z ha hb hd hp e2 e3 hl).mono ?_
        rintro e W' ⟨ps', rfl, h'⟩
        exact ⟨ps', rfl, h'⟩
      · refine (nsend_p_ok h x y z p ha hb hd hp hpu e2 e3 hl).mono ?_
        rintro e W' ⟨ps', rfl, h'⟩
        exact ⟨ps', rfl, h'⟩
    · rw [if_neg hl, decide_eq_false hl, if_neg (by simp)]
      by_cases hpu : p = u
      · subst hpu
        refine (nsend_u_full h x y z ha hb hd hp e2 e3 hl).mono ?_
        rintro e W' ⟨ps', rfl, h'⟩
        exact ⟨ps', rfl, h'⟩
      · refine (nsend_p_full h x y z p ha hb hd hp hpu e2 e3 hl).mono ?_
        rintro e W' ⟨ps', rfl, h'⟩
        exact ⟨ps', rfl, h'⟩
  · have ho' : hasO n (lkOf a m) = false := by simpa using ho
    rw [if_neg ho, ho', Bool.false_and, if_neg (by simp)]
    refine (nsend_no h a (m := m) ho').mono ?_
    rintro e W' ⟨rfl, h'⟩
    exact ⟨ps, rfl, h'⟩
end
theorem eq51 (d : Nat) (l o : Lk) (w : World) : (Op.equalIn (d + 2) 51 (.agg #[.int .i64 l.a, .int .i64 l.b, .int .i64 l.d]) (.agg #[.int .i64 o.a, .int .i64 o.b, .int .i64 o.d])).run Try.prog w = .ok (decide (l = o)) w := by
  rw [run_equalIn_struct w (d + 1) 51 _ _ (by kernel_rfl) (by kernel_rfl)]
  have hf : (Try.prog.fieldsOf 51).toList.map (fun f => (f.name, f.type, f.offset)) = [("Net", 3, 0), ("From", 3, 1), ("To", 3, 2)] := by kernel_rfl
  generalize (Try.prog.fieldsOf 51).toList = fs at hf
  have hl : fs.length = 3 := by simpa using congrArg List.length hf
  have hs : decide (l = o) = ((l.a == o.a) && ((l.b == o.b) && (l.d == o.d))) := by
    obtain ⟨_, _, _⟩ := l
    obtain ⟨_, _, _⟩ := o
    rw [Bool.eq_iff_iff]
    simp only [decide_eq_true_eq, Lk.mk.injEq, Bool.and_eq_true, beq_iff_eq]
  match fs, hl, hf with
  | [f1, f2, f3], _, hf =>
    simp only [List.map_cons, List.map_nil, List.cons.injEq, Prod.mk.injEq, and_true] at hf
    obtain ⟨⟨n1, t1, o1⟩, ⟨n2, t2, o2⟩, n3, t3, o3⟩ := hf
    have p1 : ∀ x y z : Int, (part 3 #[.int .i64 x, .int .i64 y, .int .i64 z] 0).run Try.prog w = .ok (.int .i64 x) w := fun x y z => by simp [part, isAgg, run_underlying Try.underlying3]
    have p2 : ∀ x y z : Int, (part 3 #[.int .i64 x, .int .i64 y, .int .i64 z] 1).run Try.prog w = .ok (.int .i64 y) w := fun x y z => by simp [part, isAgg, run_underlying Try.underlying3]
    have p3 : ∀ x y z : Int, (part 3 #[.int .i64 x, .int .i64 y, .int .i64 z] 2).run Try.prog w = .ok (.int .i64 z) w := fun x y z => by simp [part, isAgg, run_underlying Try.underlying3]
    rw [hs]
    cases h1 : (l.a == o.a) <;> cases h2 : (l.b == o.b) <;> cases h3 : (l.d == o.d) <;> simp [Op.eqFields, n1, n2, n3, t1, t2, t3, o1, o2, o3, Sem.run_bind, p1, p2, p3, run_equalIn_int w d 3 .i64 .i64 _ _ Try.underlying3, h1, h2, h3]
theorem eql_lnk (l o : Lk) (w : World) : (binOp .eql 51 (.agg #[.int .i64 l.a, .int .i64 l.b, .int .i64 l.d]) (.agg #[.int .i64 o.a, .int .i64 o.b, .int .i64 o.d])).run Try.prog w = .ok (.bool (decide (l = o))) w := by
  rw [run_eql_struct, eq51 9998 l o]; rfl
theorem neq_lnk (l o : Lk) (w : World) : (binOp .neq 51 (.agg #[.int .i64 l.a, .int .i64 l.b, .int .i64 l.d]) (.agg #[.int .i64 o.a, .int .i64 o.b, .int .i64 o.d])).run Try.prog w = .ok (.bool (!decide (l = o))) w := by
  rw [run_neq_struct, eq51 9998 l o]; rfl
/-! The document's example. -/
def cS1 : Nat → List Msg := upd (fun _ => []) 1 [kmsg 1 0 1]
def cS2 : Nat → List Msg := upd cS1 9 [kmsg 2 0 1]
def cS3 : Nat → List Msg := upd cS2 9 []
theorem cS3_links : (lsTo 2 cS3 (lks 2)).length = 1 := by decide
attribute [local irreducible] Msg.arr bufM marr narr parr mixp
set_option maxRecDepth 20000 in
set_option maxHeartbeats 2000000 in
theorem speaks10_any (w : World) : Calls Try.prog 21 #[] w fun e w' => e = .returned (.bool true) ∧ Below w.heap.size w w' := by
  have N := Lib.hid (nnew_any (w := w) (W := w) (L := []) 2 1 (St.nil w))
  rw [show clampN 2 = 2 by decide, show clampR 1 = 1 by decide] at N
  have P1 : ∀ W g q u ps, NX w W g q u 2 1 ps (fun _ => []) [] → Calls Try.prog 27 #[.pointer (some ⟨g, 0, none⟩), .int .i64 0, .agg (kmsg 1 0 1).arr] W fun e W' => ∃ ps', e = .returned (.int .i64 0) ∧ NX w W' g q u 2 1 ps' cS1 [] := fun W g q u ps h => nsend_any h 0 (kmsg 1 0 1)
  have P2 : ∀ W g q u ps, NX w W g q u 2 1 ps cS1 [] → Calls Try.prog 27 #[.pointer (some ⟨g, 0, none⟩), .int .i64 2, .agg (kmsg 2 0 1).arr] W fun e W' => ∃ ps', e = .returned (.int .i64 0) ∧ NX w W' g q u 2 1 ps' cS2 [] := fun W g q u ps h => nsend_any h 2 (kmsg 2 0 1)
  have P3 : ∀ W g q u ps, NX w W g q u 2 1 ps cS2 [] → Calls Try.prog 24 #[.pointer (some ⟨g, 0, none⟩), .agg #[.int .i64 2, .int .i64 0, .int .i64 1]] W fun e W' => e = .returned (.tuple #[.agg (kmsg 2 0 1).arr, .int .i64 0]) ∧ NX w W' g q u 2 1 ps cS3 [] := fun W g q u ps h => ntake_cons (x := kmsg 2 0 1) (xs := []) h 2 0 1 (by omega) (by omega) (by omega) rfl
  have P4 : ∀ W g q u ps L, NX w W g q u 2 1 ps cS3 L → Calls Try.prog 31 #[.pointer (some ⟨g, 0, none⟩)] W fun e W' => ∃ A k M, e = .returned (.slice A 1 k) ∧ NX w W' g q u 2 1 ps cS3 (M ++ L) := fun W g q u ps L h => by
    refine (nlinks_any h).mono ?_
    rintro e W' ⟨v, M, rfl, hr, h'⟩
    obtain ⟨A, k, hv, _⟩ := hr.form
    rw [cS3_links] at hv
    exact ⟨A, k, M, by rw [hv], h'⟩
  simp only [karr_lit] at P1 P2
  replace P1 := Lib.hid P1
  replace P2 := Lib.hid P2
  replace P3 := Lib.hid P3
  replace P4 := Lib.hid P4
  generalize cS1 = c1 at *
  generalize cS2 = c2 at *
  generalize cS3 = c3 at *
  go_enter Try.func21, Try.ntmps21
  go_wp2_with (first
    | (go_at_call 22; refine N.out.mono ?_; rintro e W1 ⟨g, q, u, ps, rfl, h1⟩; clear N)
    | (have _ := h1; go_at_call 27; refine (P1.out _ _ _ _ _ h1).mono ?_; clear h1; rintro e W2 ⟨ps2, rfl, h2⟩)
    | (have _ := h2; go_at_call 27; refine (P2.out _ _ _ _ _ h2).mono ?_; clear h2; rintro e W3 ⟨ps3, rfl, h3⟩)
    | (have _ := h3; go_at_call 24; refine (P3.out _ _ _ _ _ h3).mono ?_; clear h3; rintro e W4 ⟨rfl, h4⟩)
    | (have _ := h4; refine wpList_alloc_nx h4 31 rfl rfl _ zmsg.arr zero31 rfl ?_; clear h4; intro W5 h5)
    | (have _ := h5; refine wpList_store_nx (arr' := (kmsg 2 0 1).arr) h5 0 rfl 31 (.tmp 4) (.tmp 17) rfl rfl rfl rfl (by rw [Msg.arr_size]; exact sz31) (by simp only [Msg.arr_size]) (Msg.arr_one _) ?_; clear h5; intro W6 h6; have k0 := h6.cell 0 rfl 0 (.int .i64 2) (Msg.at0 _))
    | (have _ := h6; go_at_call 31; refine (P4.out _ _ _ _ _ _ h6).mono ?_; clear h6; rintro e W7 ⟨A, k, M, rfl, h7⟩))
  go_ret
  exact ⟨rfl, h7.bel⟩
end Go.Proofs.Ytacjdeppigdbjaa
