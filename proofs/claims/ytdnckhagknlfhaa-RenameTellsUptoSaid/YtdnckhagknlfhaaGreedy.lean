/-
  The greedy choice as plain mathematics: what rename.taken and rename.pairs make of sorted candidates is the one list of candidates that are apart, in the order of To, such that of each candidate that is not in it a better one that touches it is (IsP); there is but one such list. No walk.
-/
import Derived.Test.YtdnckhagknlfhaaRename
namespace Go.Proofs.Ytdnckhagknlfhaa
open Go.RowKit

/-- a pair is better than another one -/
def btr (a b : Pr) : Prop := b.sc < a.sc ∨ (a.sc = b.sc ∧ (plt a.fr b.fr ∨ (a.fr = b.fr ∧ plt a.tt b.tt)))
theorem btr_irrefl (a : Pr) : ¬ btr a a := by
  rintro (h | ⟨_, h | ⟨_, h⟩⟩)
  · omega
  · exact plt_irrefl _ h
  · exact plt_irrefl _ h
theorem btr_trans {a b c : Pr} (h : btr a b) (g : btr b c) : btr a c := by
  rcases h with h | ⟨e, h⟩
  · rcases g with g | ⟨e', _⟩
    · exact .inl (by omega)
    · exact .inl (by omega)
  · rcases g with g | ⟨e', g⟩
    · exact .inl (by omega)
    · refine .inr ⟨by omega, ?_⟩
      rcases h with h | ⟨f, h⟩
      · rcases g with g | ⟨f', _⟩
        · exact .inl (plt_trans h g)
        · exact .inl (f' ▸ h)
      · rcases g with g | ⟨f', g⟩
        · exact .inl (f ▸ g)
        · exact .inr ⟨f.trans f', plt_trans h g⟩
theorem btr_total {a b : Pr} (h : a ≠ b) : btr a b ∨ btr b a := by
  unfold btr
  rcases Int.lt_trichotomy a.sc b.sc with g | g | g
  · exact .inr (.inl g)
  · rcases plt_total a.fr b.fr with f | f | f
    · exact .inl (.inr ⟨g, .inl f⟩)
    · rcases plt_total a.tt b.tt with k | k | k
      · exact .inl (.inr ⟨g, .inr ⟨f, k⟩⟩)
      · exact absurd (by cases a; cases b; cases f; cases g; cases k; rfl) h
      · exact .inr (.inr ⟨g.symm, .inr ⟨f.symm, k⟩⟩)
    · exact .inr (.inr ⟨g.symm, .inl f⟩)
  · exact .inl (.inl g)
/-- they have a file in common -/
def Touch (a b : Pr) : Prop := a.fr = b.fr ∨ a.tt = b.tt
/-- the answer, of candidates that are told by C -/
structure IsP (C : Pr → Prop) (L : List Pr) : Prop where
  sort : L.Pairwise fun x y => plt x.tt y.tt
  cand : ∀ c ∈ L, C c
  apart : ∀ x ∈ L, ∀ y ∈ L, Touch x y → x = y
  whole : ∀ c, C c → c ∈ L ∨ ∃ b ∈ L, Touch b c ∧ btr b c

theorem countP_lt {α : Type} {p q : α → Bool} : ∀ {l : List α} {x : α}, (∀ y, p y = true → q y = true) → x ∈ l → q x = true → p x = false → l.countP p < l.countP q := by
  intro l
  induction l with
  | nil => intro x _ h; cases h
  | cons y l ih =>
    intro x hpq hx hq hp
    rw [List.countP_cons, List.countP_cons]
    have hle : l.countP p ≤ l.countP q := List.countP_mono_left fun z _ => hpq z
    rcases List.mem_cons.1 hx with rfl | h
    · rw [if_pos hq, hp]; simp; omega
    · have := ih hpq h hq hp
      by_cases e : p y = true
      · rw [if_pos e, if_pos (hpq y e)]; omega
      · rw [if_neg e]; omega

theorem IsP.mem_iff {C : Pr → Prop} {L M : List Pr} (h : IsP C L) (g : IsP C M) : ∀ c, c ∈ L ↔ c ∈ M := by
  classical
  suffices k : ∀ n c, ((L ++ M).countP fun b => decide (btr b c)) < n → (c ∈ L ↔ c ∈ M) from fun c => k _ c (Nat.lt_succ_self _)
  have one : ∀ {L M : List Pr}, IsP C L → IsP C M → ∀ c, (∀ b, b ∈ L ∨ b ∈ M → btr b c → (b ∈ L ↔ b ∈ M)) → c ∈ L → c ∈ M := by
    intro L M h g c ih hc
    rcases g.whole c (h.cand c hc) with e | ⟨b, hb, ht, hbt⟩
    · exact e
    · have hbL := (ih b (.inr hb) hbt).2 hb
      have := h.apart b hbL c hc ht
      subst this
      exact absurd hbt (btr_irrefl _)
  intro n
  induction n with
  | zero => intro c hc; omega
  | succ n ih =>
    intro c hc
    have ih' : ∀ b, b ∈ L ∨ b ∈ M → btr b c → (b ∈ L ↔ b ∈ M) := fun b hb hbc => ih b (by
      refine Nat.lt_of_lt_of_le (countP_lt (x := b) (fun y hy => ?_) (List.mem_append.2 hb) (by simpa using hbc) (by simpa using btr_irrefl b)) (Nat.le_of_lt_succ hc)
      simp only [decide_eq_true_eq] at hy ⊢
      exact btr_trans hy hbc)
    exact ⟨one h g c ih', one g h c fun b hb hbc => (ih' b hb.symm hbc).symm⟩
theorem sorted_eq {L M : List Pr} (h : L.Pairwise fun x y => plt x.tt y.tt) (g : M.Pairwise fun x y => plt x.tt y.tt) (hm : ∀ c, c ∈ L ↔ c ∈ M) : L = M := by
  have nd : ∀ {L : List Pr}, L.Pairwise (fun x y => plt x.tt y.tt) → L.Nodup := fun h => h.imp fun {x y} k e => by subst e; exact plt_irrefl _ k
  have hp : L.Perm M := (List.perm_ext_iff_of_nodup (nd h) (nd g)).2 hm
  exact hp.eq_of_pairwise (le := fun x y => plt x.tt y.tt) (fun a b _ _ h1 h2 => absurd h2 (plt_asymm h1)) h g
theorem IsP.unique {C : Pr → Prop} {L M : List Pr} (h : IsP C L) (g : IsP C M) : L = M := sorted_eq h.sort g.sort (h.mem_iff g)
theorem IsP.congr {C D : Pr → Prop} {L : List Pr} (h : IsP C L) (hCD : ∀ c, C c ↔ D c) : IsP D L :=
  ⟨h.sort, fun c hc => (hCD c).1 (h.cand c hc), h.apart, fun c hc => h.whole c ((hCD c).2 hc)⟩
/-- at a greater threshold there are those that score so much -/
theorem IsP.cut {C : Pr → Prop} {L : List Pr} (h : IsP C L) (u : Int) : IsP (fun c => C c ∧ u ≤ c.sc) (L.filter fun c => decide (u ≤ c.sc)) := by
  refine ⟨h.sort.sublist List.filter_sublist, fun c hc => ?_, fun x hx y hy => h.apart x ((List.mem_filter.1 hx).1) y ((List.mem_filter.1 hy).1), fun c hc => ?_⟩
  · have := List.mem_filter.1 hc
    exact ⟨h.cand c this.1, by simpa using this.2⟩
  · rcases h.whole c hc.1 with e | ⟨b, hb, ht, hbt⟩
    · exact .inl (List.mem_filter.2 ⟨e, by simpa using hc.2⟩)
    · refine .inr ⟨b, List.mem_filter.2 ⟨hb, ?_⟩, ht, hbt⟩
      have : c.sc ≤ b.sc := by rcases hbt with k | ⟨k, _⟩ <;> omega
      have := hc.2
      simp; omega

/-- the greedy loop, behind those that it has met -/
structure Gr (n1 n2 : Nat) (pre : List CM) (st : List CM × List CM) : Prop where
  l1 : st.1.length = n1
  l2 : st.2.length = n2
  o : ∀ i, st.1.getD i z0 ≠ z0 → st.1.getD i z0 ∈ pre ∧ (st.1.getD i z0).o.toNat = i ∧ st.2.getD (st.1.getD i z0).f.toNat z0 = st.1.getD i z0
  f : ∀ j, st.2.getD j z0 ≠ z0 → st.2.getD j z0 ∈ pre ∧ (st.2.getD j z0).f.toNat = j ∧ st.1.getD (st.2.getD j z0).o.toNat z0 = st.2.getD j z0
  met : ∀ c ∈ pre, ∃ b, b ≠ z0 ∧ st.2.getD b.f.toNat z0 = b ∧ (b.o.toNat = c.o.toNat ∨ b.f.toNat = c.f.toNat) ∧ (b = c ∨ ccmp b c < 0)
theorem getD_set (l : List CM) (i j : Nat) (c : CM) (h : i < l.length) : (l.set i c).getD j z0 = if i = j then c else l.getD j z0 := by
  simp only [List.getD_eq_getElem?_getD, List.getElem?_set]
  by_cases e : i = j
  · subst e; simp [h]
  · simp [e]
theorem ccmp_total {b c : CM} (h : ¬ ccmp c b < 0) : b = c ∨ ccmp b c < 0 := by
  rw [ccmp_neg] at h ⊢
  by_cases e : b = c
  · exact .inl e
  · refine .inr ?_
    cases b; cases c
    simp only [CM.mk.injEq] at e h ⊢
    omega
theorem Gr.step {n1 n2 : Nat} {pre : List CM} {st : List CM × List CM} (h : Gr n1 n2 pre st) {c : CM} (hc : OkC n1 n2 c) (hs : ∀ x ∈ pre, ¬ ccmp c x < 0) : Gr n1 n2 (pre ++ [c]) (stepT st c) := by
  obtain ⟨h1, h2, ho, hf, hm⟩ := h
  obtain ⟨c1, c2, c3, c4, c5⟩ := hc
  have hcz : c ≠ z0 := fun e => by subst e; simp [z0] at c5
  have hcf : c.f.toNat < st.2.length := by omega
  have hco : c.o.toNat < st.1.length := by omega
  unfold stepT
  by_cases ht : st.1.getD c.o.toNat z0 = z0 ∧ st.2.getD c.f.toNat z0 = z0
  · rw [if_pos ht]
    refine ⟨by simpa using h1, by simpa using h2, fun i hi => ?_, fun j hj => ?_, fun x hx => ?_⟩
    · simp only [getD_set _ _ _ _ hco] at hi ⊢
      by_cases e : c.o.toNat = i
      · subst e
        rw [if_pos rfl, getD_set _ _ _ _ hcf]
        exact ⟨List.mem_append.2 (.inr (by simp)), rfl, by rw [if_pos rfl]⟩
      · rw [if_neg e] at hi ⊢
        obtain ⟨k1, k2, k3⟩ := ho i hi
        refine ⟨List.mem_append.2 (.inl k1), k2, ?_⟩
        rw [getD_set _ _ _ _ hcf, if_neg, k3]
        intro e2
        rw [← e2, ht.2] at k3
        exact hi k3.symm
    · simp only [getD_set _ _ _ _ hcf] at hj ⊢
      by_cases e : c.f.toNat = j
      · subst e
        rw [if_pos rfl, getD_set _ _ _ _ hco]
        exact ⟨List.mem_append.2 (.inr (by simp)), rfl, by rw [if_pos rfl]⟩
      · rw [if_neg e] at hj ⊢
        obtain ⟨k1, k2, k3⟩ := hf j hj
        refine ⟨List.mem_append.2 (.inl k1), k2, ?_⟩
        rw [getD_set _ _ _ _ hco, if_neg, k3]
        intro e2
        rw [← e2, ht.1] at k3
        exact hj k3.symm
    · rcases List.mem_append.1 hx with hx | hx
      · obtain ⟨b, b1, b2, b3, b4⟩ := hm x hx
        refine ⟨b, b1, ?_, b3, b4⟩
        rw [getD_set _ _ _ _ hcf, if_neg, b2]
        intro e2
        rw [← e2, ht.2] at b2
        exact b1 b2.symm
      · have : x = c := by simpa using hx
        subst this
        exact ⟨x, hcz, by rw [getD_set _ _ _ _ hcf, if_pos rfl], .inl rfl, .inl rfl⟩
  · rw [if_neg ht]
    refine ⟨h1, h2, fun i hi => ⟨List.mem_append.2 (.inl (ho i hi).1), (ho i hi).2⟩, fun j hj => ⟨List.mem_append.2 (.inl (hf j hj).1), (hf j hj).2⟩, fun x hx => ?_⟩
    rcases List.mem_append.1 hx with hx | hx
    · exact hm x hx
    · have : x = c := by simpa using hx
      subst this
      by_cases e : st.1.getD x.o.toNat z0 = z0
      · have e2 : st.2.getD x.f.toNat z0 ≠ z0 := fun e2 => ht ⟨e, e2⟩
        obtain ⟨k1, k2, k3⟩ := hf _ e2
        exact ⟨_, e2, by rw [k2], .inr k2, ccmp_total (hs _ k1)⟩
      · obtain ⟨k1, k2, k3⟩ := ho _ e
        exact ⟨_, e, k3, .inl k2, ccmp_total (hs _ k1)⟩
theorem getD_replicate (n i : Nat) : (List.replicate n z0).getD i z0 = z0 := by
  simp [List.getD_eq_getElem?_getD, List.getElem?_replicate]
  split <;> rfl
theorem greedy {n1 n2 : Nat} {S : List CM} (hok : ∀ c ∈ S, OkC n1 n2 c) (hs : S.Pairwise fun x y => ¬ ccmp y x < 0) : Gr n1 n2 S (takenM n1 n2 S) := by
  unfold takenM
  suffices g : ∀ (l pre : List CM) (st : List CM × List CM), (∀ c ∈ l, OkC n1 n2 c) → (pre ++ l).Pairwise (fun x y => ¬ ccmp y x < 0) → Gr n1 n2 pre st → Gr n1 n2 (pre ++ l) (l.foldl stepT st) from
    g S [] _ hok (by simpa using hs) ⟨by simp, by simp, fun i hi => absurd (getD_replicate _ _) hi, fun i hi => absurd (getD_replicate _ _) hi, fun c hc => by cases hc⟩
  intro l
  induction l with
  | nil => intro pre st _ _ hg; simpa using hg
  | cons c l ih =>
    intro pre st hl hp hg
    have := ih (pre ++ [c]) (stepT st c) (fun d hd => hl d (List.mem_cons_of_mem _ hd)) (by simpa using hp) (hg.step (hl c List.mem_cons_self) fun x hx => (List.pairwise_append.1 hp).2.2 x hx c List.mem_cons_self)
    simpa using this

/-- a candidate of two lists of files: their paths and lines -/
def CandM (F G : List (ByteArray × List ByteArray)) (t : Int) (c : Pr) : Prop := ∃ x ∈ F, ∃ y ∈ G, c = ⟨x.1, y.1, (Al.score x.2 y.2 : Nat)⟩ ∧ max t 1 ≤ c.sc
def pl (x : FM) : ByteArray × List ByteArray := (x.path, x.lines)
theorem getD_get {L : List FM} {i : Nat} (h : i < L.length) : L.getD i default = L[i] := by simp [List.getD_eq_getElem?_getD, h]
theorem get_inj {L : List FM} (h : L.Pairwise fun x y => plt x.path y.path) {i j : Nat} (hi : i < L.length) (hj : j < L.length) (e : L[i].path = L[j].path) : i = j := by
  have h' := List.pairwise_iff_getElem.1 h
  rcases Nat.lt_trichotomy i j with k | k | k
  · have := h' i j hi hj k; rw [e] at this; exact absurd this (plt_irrefl _)
  · exact k
  · have := h' j i hj hi k; rw [e] at this; exact absurd this (plt_irrefl _)
theorem pairs_isP {L1 L2 : List FM} {t : Int} {S : List CM} (h1 : L1.Pairwise fun x y => plt x.path y.path) (h2 : L2.Pairwise fun x y => plt x.path y.path) (hS : S.Perm (cAll L1 L2 (max t 1) L1.length)) (hs : S.Pairwise fun x y => ¬ ccmp y x < 0) :
    IsP (CandM (L1.map pl) (L2.map pl) t) (prsOf L1 L2 (takenM L1.length L2.length S).2) := by
  have hok : ∀ c ∈ S, OkC L1.length L2.length c := fun c hc => okC_all (hS.mem_iff.1 hc)
  obtain ⟨g1, g2, go, gf, gm⟩ := greedy hok hs
  generalize takenM L1.length L2.length S = st at g1 g2 go gf gm
  -- what stands in the table of fresh files
  have hin : ∀ p, p ∈ prsOf L1 L2 st.2 ↔ ∃ c, c ≠ z0 ∧ st.2.getD c.f.toNat z0 = c ∧ p = prOf L1 L2 c := by
    intro p
    unfold prsOf
    simp only [List.mem_map, List.mem_filter, decide_eq_true_eq]
    constructor
    · rintro ⟨c, ⟨hc, hz⟩, rfl⟩
      obtain ⟨j, hj, e⟩ := List.mem_iff_getElem.1 hc
      have e' : st.2.getD j z0 = c := by simp [List.getD_eq_getElem?_getD, hj, e]
      have := gf j (by rw [e']; exact hz)
      rw [e'] at this
      exact ⟨c, hz, by rw [this.2.1]; exact e', rfl⟩
    · rintro ⟨c, hz, e, rfl⟩
      refine ⟨c, ⟨?_, hz⟩, rfl⟩
      have hlt : c.f.toNat < st.2.length := by
        rcases Nat.lt_or_ge c.f.toNat st.2.length with k | k
        · exact k
        · rw [List.getD_eq_getElem?_getD, List.getElem?_eq_none k] at e
          exact absurd e.symm hz
      rw [List.getD_eq_getElem?_getD, List.getElem?_eq_getElem hlt] at e
      exact List.mem_iff_getElem.2 ⟨_, hlt, e⟩
  have hS' : ∀ c, c ≠ z0 → st.2.getD c.f.toNat z0 = c → c ∈ S ∧ st.1.getD c.o.toNat z0 = c := fun c hz e => by
    have := gf c.f.toNat (by rw [e]; exact hz)
    rw [e] at this
    exact ⟨this.1, this.2.2⟩
  have hfm : ∀ c ∈ S, ∃ i j, ∃ hi : i < L1.length, ∃ hj : j < L2.length, c = ⟨i, j, (Al.score L1[i].lines L2[j].lines : Nat)⟩ ∧ max t 1 ≤ c.s ∧ prOf L1 L2 c = ⟨L1[i].path, L2[j].path, (Al.score L1[i].lines L2[j].lines : Nat)⟩ := fun c hc => by
    obtain ⟨i, j, hi, hj, hm, rfl⟩ := cAll_mem.1 (hS.mem_iff.1 hc)
    have e : scAt L1 L2 i j = Al.score L1[i].lines L2[j].lines := by unfold scAt; rw [getD_get hi, getD_get hj]
    rw [e] at hm ⊢
    refine ⟨i, j, hi, hj, rfl, hm, ?_⟩
    unfold prOf
    simp only [Int.toNat_natCast]
    rw [getD_get hi, getD_get hj]
  refine ⟨?_, fun p hp => ?_, fun p hp q hq ht => ?_, fun p hp => ?_⟩
  · unfold prsOf
    rw [List.pairwise_map, List.pairwise_filter, List.pairwise_iff_getElem]
    intro i j hi hj hij hzi hzj
    simp only [decide_eq_true_eq] at hzi hzj
    have ei : st.2.getD i z0 = st.2[i] := by simp [List.getD_eq_getElem?_getD, hi]
    have ej : st.2.getD j z0 = st.2[j] := by simp [List.getD_eq_getElem?_getD, hj]
    have ki := gf i (by rw [ei]; exact hzi)
    have kj := gf j (by rw [ej]; exact hzj)
    rw [ei] at ki
    rw [ej] at kj
    unfold prOf
    simp only [ki.2.1, kj.2.1]
    rw [getD_get (by omega), getD_get (by omega)]
    exact List.pairwise_iff_getElem.1 h2 i j (by omega) (by omega) hij
  · obtain ⟨c, hz, e, rfl⟩ := (hin p).1 hp
    obtain ⟨i, j, hi, hj, rfl, hm, ep⟩ := hfm c (hS' c hz e).1
    rw [ep]
    exact ⟨pl L1[i], List.mem_map.2 ⟨_, List.getElem_mem hi, rfl⟩, pl L2[j], List.mem_map.2 ⟨_, List.getElem_mem hj, rfl⟩, rfl, hm⟩
  · obtain ⟨c, hz, e, rfl⟩ := (hin p).1 hp
    obtain ⟨d, hz', e', rfl⟩ := (hin q).1 hq
    obtain ⟨k1, k2⟩ := hS' c hz e
    obtain ⟨k1', k2'⟩ := hS' d hz' e'
    obtain ⟨i, j, hi, hj, rfl, hm, ep⟩ := hfm c k1
    obtain ⟨i', j', hi', hj', rfl, hm', ep'⟩ := hfm d k1'
    rw [ep, ep'] at ht
    simp only [Int.toNat_natCast] at e e' k2 k2'
    rcases ht with ht | ht
    · have := get_inj h1 hi hi' ht
      subst this
      rw [← k2, ← k2']
    · have := get_inj h2 hj hj' ht
      subst this
      rw [← e, ← e']
  · obtain ⟨x, hx, y, hy, rfl, hm⟩ := hp
    obtain ⟨u, hu, rfl⟩ := List.mem_map.1 hx
    obtain ⟨v, hv, rfl⟩ := List.mem_map.1 hy
    obtain ⟨i, hi, rfl⟩ := List.mem_iff_getElem.1 hu
    obtain ⟨j, hj, rfl⟩ := List.mem_iff_getElem.1 hv
    have e : scAt L1 L2 i j = Al.score L1[i].lines L2[j].lines := by unfold scAt; rw [getD_get hi, getD_get hj]
    have hc : (⟨i, j, (Al.score L1[i].lines L2[j].lines : Nat)⟩ : CM) ∈ S := hS.mem_iff.2 (cAll_mem.2 ⟨i, j, hi, hj, by rw [e]; exact hm, by rw [e]⟩)
    obtain ⟨b, bz, be, bt, bb⟩ := gm _ hc
    obtain ⟨i', j', hi', hj', rfl, hm', ep'⟩ := hfm b (hS' b bz be).1
    have hbin : prOf L1 L2 ⟨(i' : Int), (j' : Int), (Al.score L1[i'].lines L2[j'].lines : Nat)⟩ ∈ prsOf L1 L2 st.2 := (hin _).2 ⟨_, bz, be, rfl⟩
    rw [ep'] at hbin
    simp only [Int.toNat_natCast] at bt
    rcases bb with bb | bb
    · injection bb with q1 q2 q3
      have q1' : i' = i := by omega
      have q2' : j' = j := by omega
      subst q1'; subst q2'
      exact .inl hbin
    · refine .inr ⟨_, hbin, ?_, ?_⟩
      · rcases bt with bt | bt
        · subst bt; exact .inl rfl
        · subst bt; exact .inr rfl
      · rw [ccmp_neg] at bb
        simp only at bb
        rcases bb with k | ⟨k, k' | ⟨k', k''⟩⟩
        · exact .inl k
        · exact .inr ⟨k.symm, .inl (List.pairwise_iff_getElem.1 h1 i' i hi' hi (by omega))⟩
        · have q1' : i' = i := by omega
          subst q1'
          exact .inr ⟨k.symm, .inr ⟨rfl, List.pairwise_iff_getElem.1 h2 j' j hj' hj (by omega)⟩⟩

/-- a file of items: its path, and its lines -/
def fl (its : List It) : List (ByteArray × List ByteArray) := (filesM its).map fun p => (p.1, linesOf p.2)
theorem FilesOf.strict {its : List It} {L : List FM} (h : FilesOf its L) : L.Pairwise fun x y => plt x.path y.path := by
  have hn : (L.map FM.path).Nodup := by
    have h1 := (h.2.map Prod.fst).nodup_iff
    rw [List.map_map, List.map_map] at h1
    exact h1.2 (filesM_nodup its)
  have hn' : L.Pairwise fun x y => x.path ≠ y.path := List.pairwise_map.1 hn
  refine (h.1.and hn').imp fun {x y} k => ?_
  rcases plt_total x.path y.path with e | e | e
  · exact e
  · exact absurd e k.2
  · exact absurd e k.1
theorem CandM.congr {F F' G G' : List (ByteArray × List ByteArray)} {t : Int} (h : ∀ x, x ∈ F ↔ x ∈ F') (g : ∀ x, x ∈ G ↔ x ∈ G') (c : Pr) : CandM F G t c ↔ CandM F' G' t c := by
  unfold CandM
  constructor
  · rintro ⟨x, hx, y, hy, k⟩; exact ⟨x, (h x).1 hx, y, (g y).1 hy, k⟩
  · rintro ⟨x, hx, y, hy, k⟩; exact ⟨x, (h x).2 hx, y, (g y).2 hy, k⟩
/-- what Pairs tells, in the document's words -/
def PairsTold (its1 its2 : List It) (t : Int) (w : World) (e : Ending) (w' : World) : Prop :=
  ∃ (A' : Option Addr) (c' : Nat) (L : List Pr), e = .returned (.slice A' L.length c') ∧ IsP (CandM (fl its1) (fl its2) t) L ∧ PrsAt w' A' L ∧ Below w.heap.size w w' ∧ L.length ≤ its2.length
theorem PairsRaw.told {its1 its2 : List It} {t : Int} {w w' : World} {e : Ending} (h : PairsRaw its1 its2 t w e w') : PairsTold its1 its2 t w e w' := by
  obtain ⟨A', c', L1, L2, S, he, hf1, hf2, hS, hs, hP, hb⟩ := h
  refine ⟨A', c', _, he, (pairs_isP hf1.strict hf2.strict hS hs).congr (CandM.congr (fun x => ?_) (fun x => ?_)), hP, hb, ?_⟩
  · exact hf1.2.mem_iff
  · exact hf2.2.mem_iff
  · have h1 := prsOf_len L1 L2 (takenM L1.length L2.length S).2
    have h2 := (takenM_ok (n1 := L1.length) (n2 := L2.length) (best := S) fun c hc => okC_all (hS.mem_iff.1 hc)).l2
    have h3 := hf2.2.length_eq
    rw [List.length_map, List.length_map] at h3
    have h4 := filesM_len its2
    omega
theorem pairs_told (A B : Option Addr) (its1 its2 : List It) (n1 n2 c d : Nat) (t : Int) (w : World) (ha : ItemsAt w A its1) (hb : ItemsAt w B its2) (hn1 : its1.length = n1) (hn2 : its2.length = n2) (hf1 : FitI its1) (hf2 : FitI its2) :
    Calls Try.prog 13 #[.slice A n1 c, .slice B n2 d, .int .i64 t] w (PairsTold its1 its2 t w) :=
  (pairsRaw_any A B its1 its2 n1 n2 c d t w ha hb hn1 hn2 hf1 hf2).mono fun _ _ h => h.told

end Go.Proofs.Ytdnckhagknlfhaa
