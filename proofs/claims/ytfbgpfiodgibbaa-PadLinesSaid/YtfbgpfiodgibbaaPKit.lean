/- Words of this seat: seeds, blocks of bytes, what the pads of a key are in memory. No statement is proved here. -/
import Derived.Test.YtfbgpfiodgibbaaLift
import Derived.Test.YtfbgpfiodgibbaaElt2
import Derived.Test.YtfbgpfiodgibbaaSlc
import Derived.Test.YtfbgpfiodgibbaaLast
import Derived.Test.YtfbgpfiodgibbaaASame
import Derived.Test.YtfbgpfiodgibbaaURefNumber
import Derived.Test.YtfbgpfiodgibbaaUXor
namespace Go.Proofs.Ytfbgpfiodgibbaa
open Go.RowKit
open A (arrV vals)
set_option linter.unusedVariables false
set_option linter.unusedSimpArgs false

/-- A seed. -/
structure Sd where
  l : Int
  M : Nat
  m : Int
  b : Int
deriving DecidableEq
instance : Inhabited Sd := ⟨⟨0, 0, 0, 0⟩⟩
def Sd.cs (s : Sd) : List Value := [.int .i64 s.l, .int .u64 (s.M : Int), .int .i64 s.m, .int .i64 s.b]
def Sd.arr (s : Sd) : Array Value := #[.int .i64 s.l, .int .u64 (s.M : Int), .int .i64 s.m, .int .i64 s.b]
theorem Sd.arr_eq (s : Sd) : s.cs.toArray = s.arr := rfl
def I64 (a : Int) : Prop := -9223372036854775808 ≤ a ∧ a ≤ 9223372036854775807
structure Sd.Ok (s : Sd) : Prop where
  l : I64 s.l
  M : s.M < 18446744073709551616
  m : I64 s.m
  b : I64 s.b
theorem infoOf {t : TypeId} {z : Value} {s b : Nat} (h : (Try.prog.info? t).map (fun i => (i.zero, i.size, i.bytes)) = some (some z, s, b)) : ∃ i, Try.prog.info? t = some i ∧ i.zero = some z ∧ i.size = s ∧ i.bytes = b := by
  obtain ⟨i, hi, he⟩ := Option.map_eq_some_iff.1 h
  simp only [Prod.mk.injEq] at he
  exact ⟨i, hi, he.1, he.2.1, he.2.2⟩
theorem sz42 : (Try.prog.info? 42).map (·.size) = some 4 := by kernel_rfl
theorem sz33 : (Try.prog.info? 33).map (·.size) = some 1 := by kernel_rfl
theorem sz23 : (Try.prog.info? 23).map (·.size) = some 16 := by kernel_rfl
theorem sz36 : (Try.prog.info? 36).map (·.size) = some 32 := by kernel_rfl
theorem sz59 : (Try.prog.info? 59).map (·.size) = some 2 := by kernel_rfl
theorem sz31 : (Try.prog.info? 31).map (·.size) = some 1 := by kernel_rfl
def zs16 : List Nat := List.replicate 16 0
def zs32 : List Nat := List.replicate 32 0
theorem zero23 (W : World) : (zeroValue 23).run Try.prog W = .ok (.agg (arrV zs16)) W := by kernel_rfl
theorem zero36 (W : World) : (zeroValue 36).run Try.prog W = .ok (.agg (arrV zs32)) W := by kernel_rfl
theorem zero42 (W : World) : (zeroValue 42).run Try.prog W = .ok (.agg #[.int .i64 0, .int .u64 0, .int .i64 0, .int .i64 0]) W := by kernel_rfl
instance : Elt Sd where
  ty := 42
  sl := 33
  sz := 4
  by_ := 32
  cs := Sd.cs
  zv := .agg #[.int .i64 0, .int .u64 0, .int .i64 0, .int .i64 0]
  len := fun _ => rfl
  one := by intro x u hu; simp only [Sd.cs, List.mem_cons, List.not_mem_nil, or_false] at hu; rcases hu with rfl | rfl | rfl | rfl <;> rfl
  pos := by omega
  und := Try.underlying33
  inf := infoOf (by kernel_rfl)
  zsz := rfl
  few := by omega
  low := by omega
theorem Sd.cs_inj {s t : Sd} (h : s.cs = t.cs) : s = t := by
  cases s; cases t
  simp only [Sd.cs, List.cons.injEq, Value.int.injEq, true_and, and_true] at h
  obtain ⟨rfl, h2, rfl, rfl⟩ := h
  simp only [Int.ofNat_inj] at h2
  subst h2
  rfl
theorem ecells_inj : ∀ (xs ys : List Sd), ecells xs = ecells ys → xs = ys
  | [], [], _ => rfl
  | [], y :: ys, h => by have := congrArg List.length h; rw [ecells_length, ecells_length] at this; have e4 : Elt.sz Sd = 4 := rfl; rw [e4] at this; simp at this
  | x :: xs, [], h => by have := congrArg List.length h; rw [ecells_length, ecells_length] at this; have e4 : Elt.sz Sd = 4 := rfl; rw [e4] at this; simp at this
  | x :: xs, y :: ys, h => by
    have e : x.cs ++ ecells xs = y.cs ++ ecells ys := h
    obtain ⟨h1, h2⟩ := List.append_inj e rfl
    rw [Sd.cs_inj h1, ecells_inj xs ys h2]
/-- What a row holds is told by its value and its block. -/
theorem RL.uniq {v : Value} {xs ys : List Sd} {M N : Blks} {W : World} (h : RL v xs M) (hM : ∀ x ∈ M, W.heap[x.1]? = some x.2) (k : RL v ys N) (hN : ∀ x ∈ N, W.heap[x.1]? = some x.2) : xs = ys ∧ M = N := by
  rcases h with ⟨rfl, rfl, rfl⟩ | ⟨b, cap, cur, rfl, rfl, h1, h2, h3, h4⟩
  · rcases k with ⟨_, rfl, rfl⟩ | ⟨b', cap', cur', e, _⟩
    · exact ⟨rfl, rfl⟩
    · cases e
  · rcases k with ⟨e, _, _⟩ | ⟨b', cap', cur', e, rfl, k1, k2, k3, k4⟩
    · cases e
    · injection e with e1 e2 e3
      injection e1 with e1
      injection e1 with e1
      subst e1; subst e3
      have a1 := hM _ (List.mem_singleton.2 rfl)
      have a2 := hN _ (List.mem_singleton.2 rfl)
      simp only at a1 a2
      rw [a1] at a2
      injection a2 with a2
      injection a2 with a2
      subst a2
      rw [e2] at h4
      exact ⟨ecells_inj _ _ (h4.symm.trans k4), rfl⟩
theorem RL.cells {α : Type} [E : Elt α] {v : Value} {xs : List α} {M : Blks} (h : RL v xs M) : ∀ x ∈ M, x.2.isCells = true := by
  rcases h with ⟨_, _, rfl⟩ | ⟨b, cap, cur, _, rfl, _⟩
  · intro x hx; cases hx
  · intro x hx; rw [List.mem_singleton] at hx; subst hx; rfl
theorem RL.val {α : Type} [E : Elt α] {v : Value} {xs : List α} {M : Blks} (h : RL v xs M) : v.cells = #[v] ∧ v.oneCell' = true := by
  rcases h with ⟨rfl, _, _⟩ | ⟨b, cap, cur, rfl, _⟩
  · exact ⟨rfl, rfl⟩
  · exact ⟨rfl, rfl⟩
/-- As the append onto a row of the call's own, and which block alone has changed. -/
theorem run_append_rlG {α : Type} [E : Elt α] {w W : World} {v : Value} {xs ys : List α} {M L : Blks} (h : RL v xs M) (hs : St w W (M ++ L)) {B k c : Nat} {A : Option Addr} (hr : ERow W B A k c ys) (hl : xs.length + k ≤ 100000) (ty : TypeId) :
    ∃ v' W' M', (Builtin.append_ #[E.sl, E.sl] ty #[v, .slice A k c]).run Try.prog W = .ok v' W' ∧ RL v' (xs ++ ys) M' ∧ St w W' (M' ++ L) ∧ W.grownBy W' v.ownBlock := by
  cases A with
  | none =>
    have hc := hr.2.2.2.1 rfl
    subst hc
    have hk : k = 0 := by have := hr.2.1; omega
    subst hk
    have hy : ys = [] := List.eq_nil_of_length_eq_zero hr.1
    subst hy
    rw [List.append_nil]
    obtain ⟨i, hi, hz, h1, h2⟩ := E.inf
    exact ⟨v, W, M, run_append_owned_none (P := Try.prog) (w := W) w.heap.size E.sl ty E.ty i E.sz E.und hi v xs.length (ecells xs) (h.owns hs), h, hs, World.grownBy.refl _ _⟩
  | some a =>
    obtain ⟨i, hi, hz, h1, h2⟩ := E.inf
    have hlen := hr.len
    have hf := E.few
    obtain ⟨v', W', hrun, ho, hg, _, hat⟩ := run_append_own_at (P := Try.prog) W w.heap.size E.sl ty E.ty i E.zv E.sz E.by_ E.und hi hz h1 h2 E.zsz E.pos v xs.length (ecells xs) (h.owns hs) a k c (ecells ys) (by rw [ecells_length, hlen]) (hr.flat rfl) (ecells_one ys) (by unfold maxLen; omega)
      (Nat.le_trans (Nat.mul_le_mul_right _ hl) (Nat.le_trans (Nat.mul_le_mul_left _ hf) (by omega))) hs.bel.size
    have e : xs.length + k = (xs ++ ys).length := by rw [List.length_append, hlen]
    rw [e, ← ecells_append] at ho
    obtain ⟨M', h3, h4⟩ := h.back hs ho hg hat
    exact ⟨v', W', M', hrun, h3, h4, hg⟩
theorem wp_append_rlG {α : Type} [E : Elt α] {o : Oper} {a : Act} {w W : World} {K : Act → World → Prop} {Q : Exit → Act → World → Prop} {v : Value} {xs ys : List α} {M L : Blks} (h : RL v xs M) (hs : St w W (M ++ L)) {B k c : Nat} {A : Option Addr} (hr : ERow W B A k c ys) (s x : Operand) (ho : o.op = .call { callee := .builtin .append, args := #[s, x], argTypes := #[E.sl, E.sl] })
    (hsv : a.eval s = v) (hx : a.eval x = .slice A k c) (hl : xs.length + k ≤ 100000)
    (kk : ∀ v' W' M', RL v' (xs ++ ys) M' → St w W' (M' ++ L) → W.grownBy W' v.ownBlock → K (a.put o.dst v') W') : o.wp Try.prog a W K Q := by
  obtain ⟨v', W', M', hrun, h2, h3, h4⟩ := run_append_rlG h hs hr hl o.type
  unfold Oper.wp execOp
  simp only [ho, resolve, invoke, builtin, Sem.run_bind, Sem.run_pure, Result.andThen_ok, List.map_toArray, List.map_cons, List.map_nil, hsv, hx, hrun]
  exact kk _ _ _ h2 h3 h4

/-! ### What a round of a range over a function must keep -/
theorem St.own {w W W' : World} {L : Blks} {B : Nat} {row : Option Nat} (h : St w W L) (hg : W.grownBy W' row) (hr : ∀ r, row = some r → B ≤ r ∧ ∃ o : Obj, W.heap[r]? = some o ∧ o.isCells = false) (hB : w.heap.size ≤ B) (hL : ∀ x ∈ L, x.1 < B ∨ x.2.isCells = true) : St w W' L :=
  h.grown hg (fun x hx e => by
    obtain ⟨h1, o, h2, h3⟩ := hr _ e
    rcases hL x hx with h4 | h4
    · omega
    · rw [h.at_ x hx] at h2
      injection h2 with h2
      rw [h2, h3] at h4
      cases h4) (fun k e => Nat.le_trans hB (hr k e).1)
theorem keeps_call {W W' : World} (h : Below W.heap.size W W') : KeepsOthers W W' := ⟨h.size, fun k o hk _ => (h.block k (heap_lt hk)).trans hk⟩
theorem keeps_grown {W W' : World} {row : Option Nat} (h : W.grownBy W' row) (hc : ∀ r, row = some r → ∀ o : Obj, W.heap[r]? = some o → o.isCells = true) : KeepsOthers W W' :=
  ⟨h.size, fun k o hk ho => (h.block k (heap_lt hk) (fun e => by rw [hc k e.symm o hk] at ho; cases ho)).trans hk⟩
theorem keeps_at {W W' : World} {g : Nat} {t : TypeId} {arr : Array Value} (h : W.grownBy W' (some g)) (hA : W.heap[g]? = some (C t arr)) : KeepsOthers W W' :=
  keeps_grown h fun r e o ho => by injection e with e; subst e; rw [hA] at ho; injection ho with ho; rw [← ho]; rfl
/-- Other blocks beside. -/
theorem St.join {w W : World} {L M : Blks} (h : St w W L) (k : St w W M) (hd : ∀ x ∈ L, ∀ y ∈ M, x.1 ≠ y.1) : St w W (L ++ M) :=
  ⟨fun x hx => (List.mem_append.1 hx).elim (h.at_ x) (k.at_ x), fun x hx => (List.mem_append.1 hx).elim (h.lo x) (k.lo x), List.pairwise_append.2 ⟨h.nd, k.nd, hd⟩, h.bel⟩
theorem grown_setCells (w : World) (g : Nat) (vs : List Value) : ∀ o, w.grownBy (w.setCells g o vs) (some g) := by
  induction vs generalizing w with
  | nil => exact fun _ => World.grownBy.refl _ _
  | cons v r ih => exact fun o => (grown_setCell w g o v).trans (ih _ (o + 1))
/-! ### Bytes -/
theorem blk_row {W : World} {g : Nat} {t : TypeId} {xs : List Nat} (h : A.Blk W g t xs) (bx : ∀ x ∈ xs, x < 256) (o n c : Nat) (hon : o + n ≤ xs.length) (hc : n ≤ c) (hm : c ≤ 1000) :
    U.Row W W.heap.size (some ⟨g, o, none⟩) n c ((xs.drop o).take n) := by
  refine ⟨by simp; omega, fun x hx => bx x (List.mem_of_mem_drop (List.mem_of_mem_take hx)), hc, by unfold maxLen; omega, (fun h => by cases h), fun a ha hn => ?_⟩
  injection ha with ha
  subst ha
  refine ⟨rfl, h.lt, fun j hj => ?_⟩
  rw [h.cell (o + j) (by omega)]
  simp [List.getD_eq_getElem?_getD, List.getElem?_take_of_lt hj, List.getElem?_drop]
theorem row_range {W : World} {B n c b o : Nat} {xs : List Nat} (h : U.Row W B (some ⟨b, o, none⟩) n c xs) (hn : 0 < n) : W.rangeAt b o (vals xs) := by
  intro j v hj
  have hl : j < xs.length := by rw [← A.vals_length xs]; exact (List.getElem?_eq_some_iff.1 hj).1
  rw [A.vals_getElem? xs j hl] at hj
  injection hj with hj
  subst hj
  obtain ⟨_, _, h3⟩ := h.2.2.2.2.2 _ rfl hn
  exact h3 j (by rw [h.len] at hl; exact hl)
def lay (xs ys : List Nat) (o : Nat) : List Nat := xs.take o ++ ys ++ xs.drop (o + ys.length)
section
variable {ops : Array Oper} {rest : List Oper} {o : Oper} {a : Act} {w W : World} {K : Act → World → Prop} {Q : Exit → Act → World → Prop} {L : Blks}
theorem wp_copyB (h : St w W L) (i : Nat) {g : Nat} {t : TypeId} {xs : List Nat} (hi : L[i]? = some (g, C t (arrV xs))) (d s : Operand) (ho : o.op = .call { callee := .builtin .copy, args := #[d, s], argTypes := #[27, 27] })
    (off dLen dCap g2 off2 sLen sCap : Nat) (hd : a.eval d = .slice (some ⟨g, off, none⟩) dLen dCap) (hs : a.eval s = .slice (some ⟨g2, off2, none⟩) sLen sCap) (ys : List Nat) (hn : ys.length = Nat.min sLen dLen) (hr : W.rangeAt g2 off2 (vals ys)) (hf : off + ys.length ≤ xs.length)
    (k : ∀ W', St w W' (L.set i (g, C t (arrV (lay xs ys off)))) → W.grownBy W' (some g) → K (a.put o.dst (goInt ys.length)) W') : o.wp Try.prog a W K Q := by
  have hA : A.Blk W g t xs := h.get i hi
  have ht := hA.there off ys.length hf
  have hrun := run_copy_cells (P := Try.prog) W 27 27 o.type 5 g off dLen dCap ⟨g2, off2, none⟩ sLen sCap (vals ys) Try.underlying27 A.size5 (by rw [A.vals_length]; exact hn) (fun j v hv => by rw [Addr.add_mid]; exact hr j v hv)
    (fun j hj => (ht j (by rw [A.vals_length] at hj; exact hj)).1) (fun j hj => (ht j (by rw [A.vals_length] at hj; exact hj)).2) (A.vals_one ys)
  have hg := grown_setCells W g (vals ys) off
  have hS := h.put i hi (arr' := arrV (lay xs ys off)) (hA.setCells off ys hf) hg
  unfold Oper.wp
  simp [execOp, ho, resolve, invoke, builtin, hd, hs, hrun, Result.andThen, A.vals_length]
  exact k _ hS hg
theorem wpList_copyB (h : St w W L) (i : Nat) {g : Nat} {t : TypeId} {xs : List Nat} (hi : L[i]? = some (g, C t (arrV xs))) (d s : Operand) (ho : o.op = .call { callee := .builtin .copy, args := #[d, s], argTypes := #[27, 27] }) (hw : Region.wanted o (yielded ops a.tmps) = true)
    (off dLen dCap g2 off2 sLen sCap : Nat) (hd : a.eval d = .slice (some ⟨g, off, none⟩) dLen dCap) (hs : a.eval s = .slice (some ⟨g2, off2, none⟩) sLen sCap) (ys : List Nat) (hn : ys.length = Nat.min sLen dLen) (hr : W.rangeAt g2 off2 (vals ys)) (hf : off + ys.length ≤ xs.length)
    (k : ∀ W', St w W' (L.set i (g, C t (arrV (lay xs ys off)))) → W.grownBy W' (some g) → wpList Try.prog ops Q rest (a.put o.dst (goInt ys.length)) W') : wpList Try.prog ops Q (o :: rest) a W := by
  unfold wpList
  rw [if_pos hw]
  exact .inl (wp_copyB h i hi d s ho off dLen dCap g2 off2 sLen sCap hd hs ys hn hr hf k)
end
/-! ### The block of a seed -/
def uN (a : Int) : Nat := (a % 18446744073709551616).toNat
theorem uN_lt (a : Int) : uN a < 18446744073709551616 := by unfold uN; omega
theorem uN_of (a : Int) : IntKind.u64.wrap a = (uN a : Int) := by
  unfold uN; simp [IntKind.wrap, IntKind.bits, IntKind.signed]; omega
theorem uN_mod (a : Int) : a % 18446744073709551616 = (uN a : Int) := by unfold uN; omega
/-- The numbers of a seed, as bytes. -/
def nums (s : Sd) : List Nat := U.nb (uN s.l) 4 ++ U.nb s.M 8 ++ U.nb (uN s.m) 2 ++ U.nb (uN s.b) 1
def sb (s : Sd) : List Nat := nums s ++ [0]
theorem nums_length (s : Sd) : (nums s).length = 15 := by unfold nums; simp [U.nb_length]
theorem nums_lt (s : Sd) : ∀ x ∈ nums s, x < 256 := by
  intro x hx
  simp only [nums, List.mem_append] at hx
  rcases hx with ((hx | hx) | hx) | hx <;> exact U.nb_lt _ _ x hx
theorem sb_length (s : Sd) : (sb s).length = 16 := by unfold sb; rw [List.length_append, nums_length]; rfl
theorem sb_lt (s : Sd) : ∀ x ∈ sb s, x < 256 := by
  intro x hx
  rcases List.mem_append.1 hx with hx | hx
  · exact nums_lt s x hx
  · rw [List.mem_singleton] at hx; omega
theorem lay_sb (s : Sd) : lay zs16 (nums s) 0 = sb s := by
  unfold lay sb
  rw [List.take_zero, List.nil_append, nums_length]
  rfl
end Go.Proofs.Ytfbgpfiodgibbaa
