/-
  A list of tasks of one's own that may begin behind the head of its block: one more, and what is left without the first one. No walk.
-/
import Derived.Test.YtaelenjnjoeheaaLw
namespace Go.Proofs.Ytaelenjnjoeheaa
open Go.RowKit P16

theorem Blk.setCells {g : Nat} {t : TypeId} : ∀ (vs : List Value) (k : Nat) {w : World} {cs : Array Value}, Blk w g t cs → Blk (w.setCells g k vs) g t (putAt cs k vs)
  | [], _, _, _, h => h
  | v :: r, k, w, cs, h => by
    rw [World.setCells, putAt]
    exact Blk.setCells r (k + 1) (h.set_ k v)
theorem grown_setCells (g : Nat) : ∀ (vs : List Value) (k : Nat) (w : World), w.grownBy (w.setCells g k vs) (some g)
  | [], _, w => World.grownBy.refl w _
  | v :: r, k, w => by
    rw [World.setCells]
    exact (grown_set w g k v).trans (grown_setCells g r (k + 1) _)
/-- the block in which a list lies -/
def blkOf : Value → Option Nat
  | .slice (some a) _ _ => some a.block
  | _ => none
/-- a list of one's own, wherever it begins in its block -/
def Want (w0 w : World) (v : Value) (L : List Tk) : Prop :=
  Below w0.heap.size w0 w ∧ ((v = .slice none 0 0 ∧ L = []) ∨ ∃ (g o cap : Nat) (cs : Array Value), v = .slice (some ⟨g, o, none⟩) L.length cap ∧ w0.heap.size ≤ g ∧ Blk w g 39 cs ∧ L.length ≤ cap ∧ cap ≤ maxLen ∧ o + cap * 4 ≤ cs.size ∧
    ∀ i x, L[i]? = some x → ∀ j u, (Tk.cells x)[j]? = some u → cs[o + (i * 4 + j)]? = some u)
section
variable {w0 w w' : World} {v : Value} {L : List Tk}
theorem Want.nil (h : Below w0.heap.size w0 w) : Want w0 w (.slice none 0 0) [] := ⟨h, .inl ⟨rfl, rfl⟩⟩
theorem Want.up (h : Want w0 w v L) (hb : Below w.heap.size w w') : Want w0 w' v L := by
  obtain ⟨h1, h2⟩ := h
  refine ⟨h1.trans (hb.mono h1.size), ?_⟩
  rcases h2 with h2 | ⟨g, o, cap, cs, e, hg, hk, h3⟩
  · exact .inl h2
  · exact .inr ⟨g, o, cap, cs, e, hg, hk.below hb hk.lt, h3⟩
theorem Want.far {g : Nat} {s : TypeId} {ds : Array Value} (h : Want w0 w v L) (hg : w.grownBy w' (some g)) (hk : Blk w g s ds) (hs : 39 ≠ s) (h0 : w0.heap.size ≤ g) : Want w0 w' v L := by
  obtain ⟨h1, h2⟩ := h
  refine ⟨grown_below h1 hg h1.size h0, ?_⟩
  rcases h2 with h2 | ⟨g', o, cap, cs, e, hg', hk', h3⟩
  · exact .inl h2
  · exact .inr ⟨g', o, cap, cs, e, hg', hk'.grown hg (fun e => by injection e with e; exact blk_ne hk' hk hs e), h3⟩
theorem Want.lt (h : Want w0 w v L) : ∀ g, blkOf v = some g → g < w.heap.size := fun g e => by
  rcases h.2 with ⟨rfl, _⟩ | ⟨g', o, cap, cs, rfl, _, hk, _⟩
  · cases e
  · have : g' = g := by simpa [blkOf] using e
    rw [← this]; exact hk.lt
theorem Want.ne {g : Nat} {s : TypeId} {ds : Array Value} (h : Want w0 w v L) (hk : Blk w g s ds) (hs : 39 ≠ s) : some g ≠ blkOf v := fun e => by
  rcases h.2 with ⟨rfl, _⟩ | ⟨g', o, cap, cs, rfl, _, hk', _⟩
  · cases e
  · have : g = g' := by simpa [blkOf] using e
    subst this
    exact blk_ne hk' hk hs rfl
theorem Want.slice (h : Want w0 w v L) : ∃ A c, v = .slice A L.length c := by
  rcases h.2 with ⟨rfl, rfl⟩ | ⟨g', o, cap, cs, rfl, _⟩
  · exact ⟨none, 0, rfl⟩
  · exact ⟨_, _, rfl⟩
theorem Want.at_ {A : Option Addr} {n c : Nat} (h : Want w0 w (.slice A n c) L) : TasksAt w A L ∧ L.length = n ∧ n ≤ c := by
  rcases h.2 with ⟨e, rfl⟩ | ⟨g, o, cap, cs, e, _, hk, h1, _, _, hc⟩
  · injection e with _ e1 e2
    subst e1 e2
    exact ⟨RowAt.nil, rfl, Nat.le_refl _⟩
  · injection e with eA e1 e2
    subst eA e1 e2
    refine ⟨fun _ => ⟨_, rfl, hk.lt, fun k x hx j u hu => ?_⟩, rfl, h1⟩
    have : (⟨g, o, none⟩ : Addr).add (k * 4 + j) = ⟨g, o + (k * 4 + j), none⟩ := by
      unfold Addr.add
      split
      · rename_i e; rw [e]; rfl
      · rfl
    rw [this]
    exact (hk.cell _).trans (hc k x hx j u hu)
theorem Want.of_own {wb : World} (h : OwnT wb w v L) (h0 : Below w0.heap.size w0 w) (hb : w0.heap.size ≤ wb.heap.size) : Want w0 w v L := by
  refine ⟨h0, ?_⟩
  rcases h.1.2 with ⟨rfl, e⟩ | ⟨g, cap, cs, rfl, hg, hk, hn, hm, hs, ht⟩
  · exact .inl ⟨rfl, List.eq_nil_of_length_eq_zero e⟩
  · refine .inr ⟨g, 0, cap, cs, rfl, Nat.le_trans hb hg, hk, hn, hm, by rw [hs]; omega, fun i x hx j u hu => ?_⟩
    have hf := flat_at tk_len hx j u hu
    rw [← ht, List.getElem?_take] at hf
    split at hf
    · rw [Nat.zero_add, ← Array.getElem?_toList]; exact hf
    · cases hf
/-- one more -/
theorem Want.push (h : Want w0 w v L) (x : Tk) (m : Nat) (hm : L.length + 1 = m) (hL : m ≤ 1048576) :
    ∃ A' c' W', (Builtin.append_ #[22, 22] 22 #[v, .slice (some ⟨w.heap.size, 0, none⟩) 1 1]).run Try.prog (w.alloc (.cells #[.int .i64 x.req, .int .i64 x.slot, .string x.left, .string x.right] 39)) = .ok (.slice A' m c') W' ∧ Want w0 W' (.slice A' m c') (L ++ [x]) ∧ w.grownBy W' (blkOf v) := by
  subst hm
  have hal : Below w.heap.size w (w.alloc (.cells (Tk.cells x).toArray 39)) := (Below.refl _ _).alloc (Nat.le_refl _) _
  have hnew := Blk.new w 39 (Tk.cells x).toArray
  obtain ⟨h1, h2⟩ := h
  rcases h2 with ⟨rfl, rfl⟩ | ⟨g, o, cap, cs, rfl, hg, hk, hn, hmx, hs, hc⟩
  · obtain ⟨A', c', W', hr, ho, hgr⟩ := push_task (OwnR.nil w) x 1 rfl (by omega)
    exact ⟨A', c', W', hr, Want.of_own ho (h1.trans (ho.2.mono h1.size)) h1.size, hgr⟩
  · obtain ⟨i0, hi, hz0, hz1, hz2⟩ := info_parts infoT
    have hnews : ∀ j u, (Tk.cells x)[j]? = some u → (w.alloc (.cells (Tk.cells x).toArray 39)).cell? ((⟨w.heap.size, 0, none⟩ : Addr).add j) = some u := by
      intro j u hu
      rw [add_zero_block, hnew.cell j]
      simpa using hu
    have hk2 := hk.below hal hk.lt
    by_cases hroom : L.length + 1 ≤ cap
    · have hr := run_append_room_cells (P := Try.prog) (w.alloc (.cells (Tk.cells x).toArray 39)) 22 22 39 i0 Try.underlying22 hi g o L.length cap ⟨w.heap.size, 0, none⟩ 1 1 (Tk.cells x) (by rw [hz1]; rfl) hnews (tk_one x) hroom
        (fun j hj => by rw [hk2.cell, hz1]; have hj4 : j < 4 := hj; rw [Array.getElem?_eq_getElem (by omega)]; rfl) (fun j hj => hk2.frozen _)
      rw [hz1] at hr
      have hgr := grown_setCells g (Tk.cells x) (o + L.length * 4) (w.alloc (.cells (Tk.cells x).toArray 39))
      have hgr2 : w.grownBy ((w.alloc (.cells (Tk.cells x).toArray 39)).setCells g (o + L.length * 4) (Tk.cells x)) (some g) := (grown_of_below hal _).trans hgr
      refine ⟨_, _, _, hr, ⟨grown_below h1 hgr2 h1.size hg, .inr ⟨g, o, cap, _, by rw [List.length_append]; rfl, hg, hk2.setCells _ _, by rw [List.length_append]; exact hroom, hmx, by rw [putAt_size]; exact hs, fun i y hy j u hu => ?_⟩⟩, hgr2⟩
      have hj : j < 4 := (List.getElem?_eq_some_iff.1 hu).1
      by_cases hi' : i < L.length
      · rw [List.getElem?_append_left hi'] at hy
        rw [putAt_far _ _ _ _ (by left; omega)]
        exact hc i y hy j u hu
      · rw [List.getElem?_append_right (by omega)] at hy
        have hi0 : i = L.length := by
          have := (List.getElem?_eq_some_iff.1 hy).1
          simp at this
          omega
        subst hi0
        have : y = x := by simpa using hy.symm
        subst this
        rw [← Nat.add_assoc]
        exact putAt_in _ _ _ _ _ hu (by omega)
    · have hL2 : (L.length + 1) * 48 ≤ 1048576 * 48 := Nat.mul_le_mul_right _ hL
      have hrow : ∀ j u, (L.flatMap Tk.cells)[j]? = some u → (w.alloc (.cells (Tk.cells x).toArray 39)).cell? ((⟨g, o, none⟩ : Addr).add j) = some u := by
        have hw : Want w0 w (.slice (some ⟨g, o, none⟩) L.length cap) L := ⟨h1, .inr ⟨g, o, cap, cs, rfl, hg, hk, hn, hmx, hs, hc⟩⟩
        exact (hw.at_.1.up hal).cells tk_len (by decide)
      obtain ⟨v', W', hr, ho, hgr⟩ := run_append_arg_grows (P := Try.prog) (w.alloc (.cells (Tk.cells x).toArray 39)) 22 22 39 i0 _ 4 48 Try.underlying22 hi hz0 hz1 hz2 rfl (by decide)
        ⟨g, o, none⟩ L.length cap (L.flatMap Tk.cells) (flat_len tk_len L) hrow ⟨w.heap.size, 0, none⟩ 1 1 (Tk.cells x) rfl hnews (by omega) (by unfold maxLen; omega) (by omega)
      obtain ⟨A', c', rfl⟩ := own_slice ho
      have hb2 : Below (w.alloc (.cells (Tk.cells x).toArray 39)).heap.size (w.alloc (.cells (Tk.cells x).toArray 39)) W' := ⟨hgr.os, hgr.tape, hgr.output, hgr.size, fun i hi => hgr.block i hi (by simp)⟩
      have ho' : OwnT (w.alloc (.cells (Tk.cells x).toArray 39)) W' (.slice A' (L.length + 1) c') (L ++ [x]) := ⟨by rw [List.flatMap_append, List.length_append]; simpa using ho, hb2⟩
      have hb3 : Below w.heap.size w W' := hal.trans (hb2.mono hal.size)
      exact ⟨A', c', W', hr, Want.of_own ho' (h1.trans (hb3.mono h1.size)) (Nat.le_trans h1.size hal.size), grown_of_below hb3 _⟩
/-- without the first one -/
theorem Want.tail {A : Option Addr} {x : Tk} {n c : Nat} (h : Want w0 w (.slice A n c) (x :: L)) : ∃ a, A = some a ∧ Want w0 w (.slice (fromA a c 1) (n - 1) (c - 1)) L := by
  obtain ⟨h1, h2⟩ := h
  rcases h2 with ⟨_, e⟩ | ⟨g, o, cap, cs, e, hg, hk, hn, hmx, hs, hc⟩
  · cases e
  · injection e with eA e1 e2
    subst eA e1 e2
    refine ⟨_, rfl, h1, .inr ?_⟩
    rw [List.length_cons] at hn
    unfold fromA
    by_cases hc1 : c = 1
    · have hL : L = [] := List.eq_nil_of_length_eq_zero (by omega)
      subst hL
      rw [if_pos hc1]
      exact ⟨g, o, c - 1, cs, rfl, hg, hk, Nat.zero_le _, by omega, by omega, fun i y hy => by simp at hy⟩
    · rw [if_neg hc1]
      refine ⟨g, o + 4, c - 1, cs, by simp [Addr.add], hg, hk, by omega, by omega, by omega, fun i y hy j u hu => ?_⟩
      have := hc (i + 1) y (by simpa using hy) j u hu
      rw [show o + 4 + (i * 4 + j) = o + ((i + 1) * 4 + j) from by omega]
      exact this
end

end Go.Proofs.Ytaelenjnjoeheaa
