/- A net in memory: its block, its row of queues, the queue that stands for those that aren't made, and all that are. No statement is proved here. -/
import Derived.Test.YtacjdeppigdbjaaQKit
namespace Go.Proofs.Ytacjdeppigdbjaa
open Go.RowKit
set_option linter.unusedVariables false
set_option linter.unusedSimpArgs false

/-- The three blocks of a queue with the messages xs. -/
def Qb (g R : Nat) (xs : List Msg) (B : Blks) : Prop :=
  xs.length ≤ R ∧ ∃ h k s1 r1 s2 r2, B = [(g, C 79 #[.int .i64 (R : Int), .chan (some h), .chan (some k)]), (h, Ch (min R 1) (bufM (xs.take 1)) s1 r1), (k, Ch (R - min R 1) (bufM (xs.drop 1)) s2 r2)]
theorem qq_of {w W : World} {g R : Nat} {xs : List Msg} {B L : Blks} (hR : R ≤ 4096) (hb : Qb g R xs B) (hs : St w W (B ++ L)) : QQ w W g R xs L := by
  obtain ⟨h1, h, k, s1, r1, s2, r2, rfl⟩ := hb
  exact ⟨h1, hR, h, k, s1, r1, s2, r2, hs⟩
theorem of_qq {w W : World} {g R : Nat} {xs : List Msg} {L : Blks} (h : QQ w W g R xs L) : ∃ B, Qb g R xs B ∧ St w W (B ++ L) := by
  obtain ⟨h1, hR, h, k, s1, r1, s2, r2, hs⟩ := h
  exact ⟨_, ⟨h1, h, k, s1, r1, s2, r2, rfl⟩, hs⟩
/-- The cells of a row of queues. -/
def parr (ps : List Nat) : Array Value := (ps.map fun p => Value.pointer (some ⟨p, 0, none⟩)).toArray
theorem parr_size (ps : List Nat) : (parr ps).size = ps.length := by simp [parr]
theorem parr_at (ps : List Nat) (i p : Nat) (h : ps[i]? = some p) : (parr ps)[i]? = some (.pointer (some ⟨p, 0, none⟩)) := by
  simp [parr, h]
theorem parr_set (ps : List Nat) (i p : Nat) : (parr ps).setIfInBounds i (.pointer (some ⟨p, 0, none⟩)) = parr (ps.set i p) := by
  simp [parr, List.map_set]
/-- The cells of a net. -/
def narr (n q u K : Nat) : Array Value := #[.int .i64 (n : Int), .slice (some ⟨q, 0, none⟩) K K, .pointer (some ⟨u, 0, none⟩)]
/-- How many links there are. -/
def lks (n : Nat) : Nat := 3 * n * n
/-- A net: nodes n, room R, the queues' blocks ps, what each link has. -/
def NX (w W : World) (g q u n R : Nat) (ps : List Nat) (c : Nat → List Msg) (L : Blks) : Prop :=
  ps.length = lks n ∧ n ≤ 16 ∧ R ≤ 4096 ∧ ∃ (Bu : Blks) (Bs : List Blks), Qb u R [] Bu ∧ Bs.length = ps.length ∧
    (∀ i p, ps[i]? = some p → (p = u ∧ c i = [] ∧ Bs[i]? = some []) ∨ (p ≠ u ∧ ∃ B, Bs[i]? = some B ∧ Qb p R (c i) B)) ∧
    St w W (Bs.flatten ++ ((g, C 85 (narr n q u (lks n))) :: (q, C 24 (parr ps)) :: (Bu ++ L)))
def upd (c : Nat → List Msg) (i : Nat) (xs : List Msg) : Nat → List Msg := fun j => if j = i then xs else c j
theorem upd_self (c : Nat → List Msg) (i : Nat) : upd c i (c i) = c := by
  funext j; unfold upd; split
  · rename_i h; rw [h]
  · rfl
theorem flatten_take {α : Type} (Bs : List (List α)) : ∀ (i : Nat) (B : List α), Bs[i]? = some B → Bs.flatten.Perm (B ++ (Bs.set i []).flatten) := by
  induction Bs with
  | nil => intro i B h; simp at h
  | cons X Bs ih =>
    intro i B h
    cases i with
    | zero =>
      simp only [List.getElem?_cons_zero, Option.some.injEq] at h
      subst h
      simp
    | succ i =>
      simp only [List.getElem?_cons_succ] at h
      simp only [List.set_cons_succ, List.flatten_cons]
      exact ((ih i B h).append_left X).trans (List.perm_append_comm_assoc X B _)
theorem flatten_put {α : Type} (Bs : List (List α)) (i : Nat) (B B' : List α) (h : Bs[i]? = some B) : (Bs.set i B').flatten.Perm (B' ++ (Bs.set i []).flatten) := by
  have hi := (List.getElem?_eq_some_iff.1 h).1
  have := flatten_take (Bs.set i B') i B' (by rw [List.getElem?_set_self hi])
  rwa [List.set_set] at this
section
variable {w W W' : World} {g q u n R : Nat} {ps : List Nat} {c : Nat → List Msg} {L M : Blks}
theorem NX.len (h : NX w W g q u n R ps c L) : ps.length = lks n := h.1
theorem NX.n16 (h : NX w W g q u n R ps c L) : n ≤ 16 := h.2.1
theorem NX.r4 (h : NX w W g q u n R ps c L) : R ≤ 4096 := h.2.2.1
theorem NX.lift (h : NX w W g q u n R ps c L) : ∃ Y : Blks, 2 ≤ Y.length ∧ (g, C 85 (narr n q u (lks n))) ∈ Y ∧ (q, C 24 (parr ps)) ∈ Y ∧ St w W (Y ++ L) ∧ ∀ W' M, St w W' (Y ++ M) → NX w W' g q u n R ps c M := by
  obtain ⟨h1, h2, h3, Bu, Bs, hu, hl, hp, hs⟩ := h
  refine ⟨Bs.flatten ++ ((g, C 85 (narr n q u (lks n))) :: (q, C 24 (parr ps)) :: Bu), by simp; omega, by simp, by simp, ?_, fun W' M h' => ⟨h1, h2, h3, Bu, Bs, hu, hl, hp, ?_⟩⟩
  · simpa [List.append_assoc] using hs
  · simpa [List.append_assoc] using h'
theorem NX.st (h : NX w W g q u n R ps c L) : St w W L := by
  obtain ⟨Y, _, _, _, hs, _⟩ := h.lift
  exact hs.sub (List.sublist_append_right Y L)
theorem NX.bel (h : NX w W g q u n R ps c L) : Below w.heap.size w W := h.st.bel
theorem NX.net (h : NX w W g q u n R ps c L) : At W g 85 (narr n q u (lks n)) := by
  obtain ⟨Y, _, h1, _, hs, _⟩ := h.lift
  exact hs.at_ _ (List.mem_append_left L h1)
theorem NX.row (h : NX w W g q u n R ps c L) : At W q 24 (parr ps) := by
  obtain ⟨Y, _, _, h1, hs, _⟩ := h.lift
  exact hs.at_ _ (List.mem_append_left L h1)
theorem NX.c0 (h : NX w W g q u n R ps c L) : W.cell? ⟨g, 0, none⟩ = some (.int .i64 (n : Int)) := h.net.cell 0
theorem NX.c1 (h : NX w W g q u n R ps c L) : W.cell? ⟨g, 1, none⟩ = some (.slice (some ⟨q, 0, none⟩) (lks n) (lks n)) := h.net.cell 1
theorem NX.c2 (h : NX w W g q u n R ps c L) : W.cell? ⟨g, 2, none⟩ = some (.pointer (some ⟨u, 0, none⟩)) := h.net.cell 2
theorem NX.cp (h : NX w W g q u n R ps c L) (i p : Nat) (hi : ps[i]? = some p) : W.cell? ⟨q, i, none⟩ = some (.pointer (some ⟨p, 0, none⟩)) := (h.row.cell i).trans (parr_at ps i p hi)
theorem NX.drewN (h : NX w W g q u n R ps c L) (j : Nat) : NX w (W.drewN j) g q u n R ps c L := by
  obtain ⟨Y, _, _, _, hs, up⟩ := h.lift
  exact up _ _ (hs.drewN j)
theorem NX.call (h : NX w W g q u n R ps c L) (hb : Below W.heap.size W W') : NX w W' g q u n R ps c L := by
  obtain ⟨Y, _, _, _, hs, up⟩ := h.lift
  exact up _ _ (hs.call hb)
theorem NX.sub (h : NX w W g q u n R ps c L) (hs : M.Sublist L) : NX w W g q u n R ps c M := by
  obtain ⟨Y, _, _, _, hs', up⟩ := h.lift
  exact up _ _ (hs'.sub (hs.append_left Y))
theorem NX.perm (h : NX w W g q u n R ps c L) (hp : L.Perm M) : NX w W g q u n R ps c M := by
  obtain ⟨Y, _, _, _, hs', up⟩ := h.lift
  exact up _ _ (hs'.perm (hp.append_left Y))
theorem NX.tail {x : Nat × Obj} (h : NX w W g q u n R ps c (x :: L)) : NX w W g q u n R ps c L := h.sub (List.sublist_cons_self x L)
theorem NX.at2 (h : NX w W g q u n R ps c L) (i : Nat) {b : Nat} {t : TypeId} {arr : Array Value} (hi : L[i]? = some (b, C t arr)) : At W b t arr := h.st.get i hi
theorem NX.cell (h : NX w W g q u n R ps c L) (i : Nat) {b : Nat} {t : TypeId} {arr : Array Value} (hi : L[i]? = some (b, C t arr)) (j : Nat) (v : Value) (hv : arr[j]? = some v) : W.cell? ⟨b, j, none⟩ = some v := h.st.cell i hi j v hv
theorem NX.push (h : NX w W g q u n R ps c L) (o : Obj) : NX w (W.alloc o) g q u n R ps c ((W.heap.size, o) :: L) := by
  obtain ⟨Y, _, _, _, hs, up⟩ := h.lift
  refine up _ _ ((hs.pushO o).perm ?_)
  rw [List.append_assoc]
  exact (List.perm_append_singleton _ L).append_left Y
/-- The queue that a link's pointer leads to. -/
theorem NX.queueP (h : NX w W g q u n R ps c L) (i p : Nat) (hi : ps[i]? = some p) : ∃ X, QQ w W p R (c i) X ∧
    ∀ W' xs' N, (p = u → xs' = []) → QQ w W' p R xs' (N ++ X) → NX w W' g q u n R ps (upd c i xs') (N ++ L) := by
  obtain ⟨h1, h2, h3, Bu, Bs, hu, hl, hp, hs⟩ := h
  have hil := (List.getElem?_eq_some_iff.1 hi).1
  rcases hp i p hi with ⟨rfl, hc, hB⟩ | ⟨hne, B, hB, hq⟩
  · rw [hc]
    refine ⟨Bs.flatten ++ ((g, C 85 (narr n q p (lks n))) :: (q, C 24 (parr ps)) :: L), qq_of h3 hu (hs.perm ?_), fun W' xs' N hx h' => ?_⟩
    · refine List.Perm.trans ?_ (List.perm_append_comm_assoc Bs.flatten Bu _)
      refine List.Perm.append_left _ ?_
      have := List.perm_append_comm_assoc [(g, C 85 (narr n q p (lks n))), (q, C 24 (parr ps))] Bu L
      exact this
    · have := hx rfl
      subst this
      obtain ⟨Bu', hu', hs'⟩ := of_qq h'
      refine ⟨h1, h2, h3, Bu', Bs, hu', hl, fun j p' hj => ?_, hs'.perm ?_⟩
      · rcases hp j p' hj with ⟨e1, e2, e3⟩ | ⟨e1, B, e2, e3⟩
        · refine .inl ⟨e1, ?_, e3⟩
          unfold upd; split
          · rfl
          · exact e2
        · refine .inr ⟨e1, B, e2, ?_⟩
          have : j ≠ i := fun e => by subst e; rw [hi] at hj; injection hj with hj; exact e1 hj.symm
          unfold upd
          rw [if_neg this]
          exact e3
      · refine List.Perm.trans (List.perm_append_comm_assoc Bu' N _) ?_
        refine List.Perm.trans ?_ ?_ (l₂ := N ++ (Bs.flatten ++ ((g, C 85 (narr n q p (lks n))) :: (q, C 24 (parr ps)) :: (Bu' ++ L))))
        · refine List.Perm.append_left N ?_
          refine (List.perm_append_comm_assoc Bu' Bs.flatten _).trans (List.Perm.append_left _ ?_)
          exact List.perm_append_comm_assoc Bu' [_, _] L
        · refine (List.perm_append_comm_assoc N Bs.flatten _).trans (List.Perm.append_left _ ?_)
          refine (List.perm_append_comm_assoc N [_, _] (Bu' ++ L)).trans (List.Perm.append_left [_, _] ?_)
          exact List.perm_append_comm_assoc N Bu' L
  · refine ⟨(Bs.set i []).flatten ++ ((g, C 85 (narr n q u (lks n))) :: (q, C 24 (parr ps)) :: (Bu ++ L)), qq_of h3 hq (hs.perm ?_), fun W' xs' N hx h' => ?_⟩
    · rw [← List.append_assoc]
      exact (flatten_take Bs i B hB).append_right _
    · obtain ⟨B', hq', hs'⟩ := of_qq h'
      refine ⟨h1, h2, h3, Bu, Bs.set i B', hu, by simp [hl], fun j p' hj => ?_, hs'.perm ?_⟩
      · by_cases hji : j = i
        · subst hji
          rw [hi] at hj; injection hj with hj; subst hj
          refine .inr ⟨hne, B', by rw [List.getElem?_set_self (by omega)], ?_⟩
          unfold upd; rw [if_pos rfl]; exact hq'
        · rw [List.getElem?_set_ne (Ne.symm hji)]
          unfold upd; rw [if_neg hji]
          exact hp j p' hj
      · refine List.Perm.trans (List.perm_append_comm_assoc B' N _) ?_
        refine List.Perm.trans (l₂ := N ++ ((Bs.set i B').flatten ++ ((g, C 85 (narr n q u (lks n))) :: (q, C 24 (parr ps)) :: (Bu ++ L)))) ?_ ?_
        · refine List.Perm.append_left N ?_
          rw [← List.append_assoc]
          exact ((flatten_put Bs i B B' hB).symm).append_right _
        · refine (List.perm_append_comm_assoc N _ _).trans (List.Perm.append_left _ ?_)
          refine (List.perm_append_comm_assoc N [_, _] (Bu ++ L)).trans (List.Perm.append_left [_, _] ?_)
          exact List.perm_append_comm_assoc N Bu L
theorem NX.unused (h : NX w W g q u n R ps c L) (i : Nat) (hi : ps[i]? = some u) : c i = [] := by
  obtain ⟨h1, h2, h3, Bu, Bs, hu, hl, hp, hs⟩ := h
  rcases hp i u hi with ⟨_, hc, _⟩ | ⟨hne, _⟩
  · exact hc
  · exact absurd rfl hne
theorem NX.queue (h : NX w W g q u n R ps c L) (i p : Nat) (hi : ps[i]? = some p) : ∃ X, QQ w W p R (c i) X ∧
    ∀ W' xs' N, (c i = [] → xs' = []) → QQ w W' p R xs' (N ++ X) → NX w W' g q u n R ps (upd c i xs') (N ++ L) := by
  obtain ⟨X, hq, up⟩ := h.queueP i p hi
  exact ⟨X, hq, fun W' xs' N hx h' => up W' xs' N (fun e => hx (h.unused i (e ▸ hi))) h'⟩
/-- A queue is made for a link that has none. -/
theorem NX.made (h : NX w W g q u n R ps c L) (i : Nat) (hi : ps[i]? = some u) : c i = [] ∧ ∃ X, St w W X ∧ (∀ W' p N, QQ w W' p R [] (N ++ X) → p ≠ u ∧ ∃ Y : Blks, St w W' (Y ++ ((q, C 24 (parr ps)) :: (N ++ L))) ∧ (g, C 85 (narr n q u (lks n))) ∈ Y ∧ ∀ W'' M, St w W'' (Y ++ ((q, C 24 (parr (ps.set i p))) :: M)) → NX w W'' g q u n R (ps.set i p) c M) ∧
    (∀ W', St w W' X → NX w W' g q u n R ps c L) := by
  obtain ⟨h1, h2, h3, Bu, Bs, hu, hl, hp, hs⟩ := h
  have hil := (List.getElem?_eq_some_iff.1 hi).1
  rcases hp i u hi with ⟨_, hc, hB⟩ | ⟨hne, _⟩
  · refine ⟨hc, _, hs, fun W' p N h' => ?_, fun W' h' => ⟨h1, h2, h3, Bu, Bs, hu, hl, hp, h'⟩⟩
    obtain ⟨B', hq', hs'⟩ := of_qq h'
    have hpu : p ≠ u := by
      obtain ⟨_, _, _, _, _, _, _, e1⟩ := hq'
      obtain ⟨_, _, _, _, _, _, _, e2⟩ := hu
      subst e1; subst e2
      have := hs'.nd
      rw [List.cons_append, List.pairwise_cons] at this
      exact this.1 (u, _) (List.mem_append_right [_, _] (List.mem_append_right N (List.mem_append_right Bs.flatten (List.mem_cons_of_mem _ (List.mem_cons_of_mem _ (List.mem_append_left L List.mem_cons_self))))))
    refine ⟨hpu, (Bs.set i B').flatten ++ ((g, C 85 (narr n q u (lks n))) :: Bu), hs'.perm ?_, by simp, fun W'' M hs'' => ⟨by simp [h1], h2, h3, Bu, Bs.set i B', hu, by simp [hl], fun j p' hj => ?_, hs''.perm ?_⟩⟩
    · refine List.Perm.trans (List.perm_append_comm_assoc B' N _) ?_
      have e1 : (B' ++ (Bs.flatten ++ ((g, C 85 (narr n q u (lks n))) :: (q, C 24 (parr ps)) :: (Bu ++ L)))).Perm ((Bs.set i B').flatten ++ ((g, C 85 (narr n q u (lks n))) :: (q, C 24 (parr ps)) :: (Bu ++ L))) := by
        rw [← List.append_assoc]
        refine List.Perm.append_right _ ?_
        have e2 := flatten_take Bs i [] hB
        have e3 := flatten_put Bs i [] B' hB
        exact (e2.append_left B').trans e3.symm
      refine (e1.append_left N).trans ?_
      refine (List.perm_append_comm_assoc N _ _).trans ?_
      rw [List.append_assoc]
      refine List.Perm.append_left _ ?_
      refine (List.perm_append_comm_assoc N [_, _] (Bu ++ L)).trans ?_
      show ([(g, C 85 (narr n q u (lks n)))] ++ ((q, C 24 (parr ps)) :: (N ++ (Bu ++ L)))).Perm ([(g, C 85 (narr n q u (lks n)))] ++ (Bu ++ ((q, C 24 (parr ps)) :: (N ++ L))))
      refine List.Perm.append_left _ ?_
      refine List.Perm.trans (List.Perm.cons _ (List.perm_append_comm_assoc N Bu L)) ?_
      exact (List.perm_middle).symm
    · by_cases hji : j = i
      · subst hji
        rw [List.getElem?_set_self (by omega)] at hj; injection hj with hj; subst hj
        refine .inr ⟨hpu, B', by rw [List.getElem?_set_self (by omega)], ?_⟩
        rw [hc]; exact hq'
      · rw [List.getElem?_set_ne (Ne.symm hji)] at hj ⊢
        exact hp j p' hj
    · rw [List.append_assoc]
      refine List.Perm.append_left _ ?_
      show ([(g, C 85 (narr n q u (lks n)))] ++ (Bu ++ ((q, C 24 (parr (ps.set i p))) :: M))).Perm ([(g, C 85 (narr n q u (lks n)))] ++ ((q, C 24 (parr (ps.set i p))) :: (Bu ++ M)))
      exact List.Perm.append_left _ List.perm_middle
  · exact absurd rfl hne
end
end Go.Proofs.Ytacjdeppigdbjaa
