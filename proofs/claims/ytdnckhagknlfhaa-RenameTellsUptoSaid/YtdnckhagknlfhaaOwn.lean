/-
  Plain mathematics for RenameOrder: files are the same, whatever the order of items with unlike paths; of files and the same files each is paired, at 100. No walk.
-/
import Derived.Test.YtdnckhagknlfhaaMore
namespace Go.Proofs.Ytdnckhagknlfhaa

theorem nodup_sub_len {α : Type} [DecidableEq α] : ∀ {l m : List α}, l.Nodup → (∀ x ∈ l, x ∈ m) → l.length ≤ m.length
  | [], _, _, _ => Nat.zero_le _
  | x :: l, m, hn, hs => by
    obtain ⟨hx, hl⟩ := List.nodup_cons.1 hn
    have hxm : x ∈ m := hs x (by simp)
    have h1 := nodup_sub_len (l := l) (m := m.erase x) hl (fun y hy => (List.mem_erase_of_ne (by intro e; subst e; exact hx hy)).2 (hs y (by simp [hy])))
    have h2 := List.length_erase_of_mem hxm
    have h3 : 0 < m.length := List.length_pos_of_mem hxm
    simp only [List.length_cons]
    omega
theorem nodup_sub_lt {α : Type} [DecidableEq α] {l m : List α} {x : α} (hn : l.Nodup) (hs : ∀ y ∈ l, y ∈ m) (hx : x ∈ m) (hl : x ∉ l) : l.length < m.length := by
  have := nodup_sub_len (l := x :: l) (m := m) (List.nodup_cons.2 ⟨hl, hn⟩) (fun y hy => by
    rcases List.mem_cons.1 hy with rfl | h
    · exact hx
    · exact hs y h)
  simp only [List.length_cons] at this
  omega

section
variable {F : List (ByteArray × List ByteArray)}
theorem fst_inj (hn : (F.map Prod.fst).Nodup) {x y : ByteArray × List ByteArray} (hx : x ∈ F) (hy : y ∈ F) (e : x.1 = y.1) : x = y := by
  induction F with
  | nil => cases hx
  | cons z l ih =>
    rw [List.map_cons, List.nodup_cons] at hn
    obtain ⟨hz, hl⟩ := hn
    rcases List.mem_cons.1 hx with hx1 | hx1
    · rcases List.mem_cons.1 hy with hy1 | hy1
      · rw [hx1, hy1]
      · exact absurd (List.mem_map.2 ⟨y, hy1, by rw [← e, hx1]⟩) hz
    · rcases List.mem_cons.1 hy with hy1 | hy1
      · exact absurd (List.mem_map.2 ⟨x, hx1, by rw [e, hy1]⟩) hz
      · exact ih hl hx1 hy1

theorem IsP.nodup {C : Pr → Prop} {L : List Pr} (h : IsP C L) : (L.map Pr.fr).Nodup ∧ (L.map Pr.tt).Nodup := by
  have hp : L.Pairwise fun x y => x ≠ y := h.sort.imp fun {x y} hxy e => by subst e; exact plt_irrefl _ hxy
  have hq : L.Pairwise fun x y => x.fr ≠ y.fr ∧ x.tt ≠ y.tt := List.Pairwise.imp_of_mem (fun {x y} hx hy hne => ⟨fun e => hne (h.apart x hx y hy (.inl e)), fun e => hne (h.apart x hx y hy (.inr e))⟩) hp
  constructor
  · rw [List.Nodup, List.pairwise_map]; exact hq.imp fun h => h.1
  · rw [List.Nodup, List.pairwise_map]; exact hq.imp fun h => h.2

theorem own_pairs {t : Int} {L : List Pr} (hn : (F.map Prod.fst).Nodup) (ht : t ≤ 100) (h : IsP (CandM F F t) L) : (∀ p ∈ L, p.sc = 100) ∧ L.length = F.length := by
  obtain ⟨nf, nt⟩ := h.nodup
  have hC : ∀ x ∈ F, ∀ y ∈ F, Al.score x.2 y.2 = 100 → CandM F F t ⟨x.1, y.1, 100⟩ := fun x hx y hy e => ⟨x, hx, y, hy, by rw [e]; rfl, by show max t 1 ≤ (100 : Int); omega⟩
  have hle : ∀ p ∈ L, p.sc ≤ 100 := fun p hp => by
    obtain ⟨x, _, y, _, rfl, _⟩ := h.cand p hp
    have := Al.score_le x.2 y.2
    show ((Al.score x.2 y.2 : Nat) : Int) ≤ 100
    omega
  have hall : ∀ f ∈ F, ∃ p ∈ L, p.fr = f.1 ∧ p.sc = 100 := by
    classical
    intro f hf
    have hcl : ∀ x y : List ByteArray, Al.score f.2 x = 100 → Al.score x y = 100 → Al.score f.2 y = 100 := fun x y h1 h2 => Al.score_all.2 fun z => (Al.score_all.1 h1 z).trans (Al.score_all.1 h2 z)
    have hcr : ∀ x y : List ByteArray, Al.score f.2 y = 100 → Al.score x y = 100 → Al.score f.2 x = 100 := fun x y h1 h2 => Al.score_all.2 fun z => (Al.score_all.1 h1 z).trans (Al.score_all.1 h2 z).symm
    obtain ⟨K, hK⟩ : ∃ K, K = F.filter (fun e => decide (Al.score f.2 e.2 = 100)) := ⟨_, rfl⟩
    have mK : ∀ e, e ∈ K ↔ e ∈ F ∧ Al.score f.2 e.2 = 100 := fun e => by rw [hK, List.mem_filter]; simp
    have nK : (K.map Prod.fst).Nodup := by rw [hK]; exact (List.filter_sublist.map _).nodup hn
    obtain ⟨LK, hLK⟩ : ∃ LK, LK = L.filter (fun p => decide (p.sc = 100 ∧ p.fr ∈ K.map Prod.fst)) := ⟨_, rfl⟩
    have mL : ∀ p, p ∈ LK ↔ p ∈ L ∧ p.sc = 100 ∧ p.fr ∈ K.map Prod.fst := fun p => by rw [hLK, List.mem_filter]; simp
    have nLf : (LK.map Pr.fr).Nodup := by rw [hLK]; exact (List.filter_sublist.map _).nodup nf
    have nLt : (LK.map Pr.tt).Nodup := by rw [hLK]; exact (List.filter_sublist.map _).nodup nt
    have hback : ∀ p ∈ L, p.sc = 100 → p.tt ∈ K.map Prod.fst → p ∈ LK := fun p hp hs ht' => by
      obtain ⟨x, hx, y, hy, rfl, _⟩ := h.cand p hp
      obtain ⟨e, he, e1⟩ := List.mem_map.1 ht'
      have he' := (mK e).1 he
      have ey : e = y := fst_inj hn he'.1 hy e1
      subst ey
      have hs' : Al.score x.2 e.2 = 100 := by have : ((Al.score x.2 e.2 : Nat) : Int) = 100 := hs; omega
      exact (mL _).2 ⟨hp, hs, List.mem_map.2 ⟨x, (mK x).2 ⟨hx, hcr _ _ he'.2 hs'⟩, rfl⟩⟩
    have hfK : f ∈ K := (mK f).2 ⟨hf, Al.score_all.2 fun _ => rfl⟩
    by_cases hfr : f.1 ∈ LK.map Pr.fr
    · obtain ⟨p, hp, e⟩ := List.mem_map.1 hfr
      exact ⟨p, ((mL p).1 hp).1, e, ((mL p).1 hp).2.1⟩
    · exfalso
      have hlt : LK.length < K.length := by
        have h1 := nodup_sub_lt (l := LK.map Pr.fr) (m := K.map Prod.fst) (x := f.1) nLf (fun x hx => by
          obtain ⟨p, hp, e⟩ := List.mem_map.1 hx
          rw [← e]; exact ((mL p).1 hp).2.2) (List.mem_map.2 ⟨f, hfK, rfl⟩) hfr
        simpa using h1
      obtain ⟨g, hgK, hg⟩ : ∃ g ∈ K, g.1 ∉ LK.map Pr.tt := by
        refine Classical.byContradiction fun hno => ?_
        have h1 := nodup_sub_len (l := K.map Prod.fst) (m := LK.map Pr.tt) nK (fun x hx => by
          obtain ⟨e, he, e1⟩ := List.mem_map.1 hx
          refine Classical.byContradiction fun hn' => hno ⟨e, he, by rw [e1]; exact hn'⟩)
        simp only [List.length_map] at h1
        omega
      have hgF := (mK g).1 hgK
      rcases h.whole _ (hC f hf g hgF.1 hgF.2) with hin | ⟨b, hb, htc, hbt⟩
      · exact hfr (List.mem_map.2 ⟨_, (mL _).2 ⟨hin, rfl, List.mem_map.2 ⟨f, hfK, rfl⟩⟩, rfl⟩)
      · have hb1 := hle b hb
        have hb2 : b.sc = 100 := by
          rcases hbt with h1 | ⟨h1, _⟩
          · have : (100 : Int) < b.sc := h1
            omega
          · exact h1
        rcases htc with e | e
        · exact hfr (List.mem_map.2 ⟨b, (mL b).2 ⟨hb, hb2, List.mem_map.2 ⟨f, hfK, e.symm⟩⟩, e⟩)
        · exact hg (List.mem_map.2 ⟨b, hback b hb hb2 (List.mem_map.2 ⟨g, hgK, e.symm⟩), e⟩)
  have hsub : ∀ p ∈ L, ∃ x ∈ F, p.fr = x.1 := fun p hp => by
    obtain ⟨x, hx, y, _, rfl, _⟩ := h.cand p hp
    exact ⟨x, hx, rfl⟩
  constructor
  · intro p hp
    obtain ⟨x, hx, e⟩ := hsub p hp
    obtain ⟨q, hq, e2, e3⟩ := hall x hx
    have := h.apart p hp q hq (.inl (e.trans e2.symm))
    rw [this]; exact e3
  · have h1 := nodup_sub_len (l := L.map Pr.fr) (m := F.map Prod.fst) nf (fun x hx => by
      obtain ⟨p, hp, rfl⟩ := List.mem_map.1 hx
      obtain ⟨y, hy, e⟩ := hsub p hp
      rw [e]; exact List.mem_map.2 ⟨y, hy, rfl⟩)
    have h2 := nodup_sub_len (l := F.map Prod.fst) (m := L.map Pr.fr) hn (fun x hx => by
      obtain ⟨y, hy, rfl⟩ := List.mem_map.1 hx
      obtain ⟨p, hp, e, _⟩ := hall y hy
      rw [← e]; exact List.mem_map.2 ⟨p, hp, rfl⟩)
    simp only [List.length_map] at h1 h2
    omega
end

/-! the files of items whose paths are unlike -/
theorem once_nodup : ∀ {its : List It}, (∀ it ∈ its, cntP its it.path ≤ 1) → (its.map It.path).Nodup
  | [], _ => List.nodup_nil
  | it :: l, h => by
    rw [List.map_cons, List.nodup_cons]
    have h0 := h it (by simp)
    unfold cntP at h0
    rw [List.countP_cons] at h0
    simp only [decide_true, if_true] at h0
    constructor
    · intro hm
      obtain ⟨x, hx, e⟩ := List.mem_map.1 hm
      have : 0 < l.countP fun z => decide (z.path = it.path) := List.countP_pos_iff.2 ⟨x, hx, by simpa using e⟩
      omega
    · refine once_nodup fun x hx => ?_
      have hx' := h x (by simp [hx])
      unfold cntP at hx' ⊢
      rw [List.countP_cons] at hx'
      omega
theorem fold_files : ∀ (l : List It) (acc : List (ByteArray × ByteArray)), (l.map It.path).Nodup → (∀ it ∈ l, it.path ∉ acc.map Prod.fst) →
    l.foldl stepF acc = acc ++ (l.filter fun it => decide (it.kind = 2)).map fun it => (it.path, it.data)
  | [], acc, _, _ => by simp
  | it :: l, acc, hn, ha => by
    rw [List.map_cons, List.nodup_cons] at hn
    rw [List.foldl_cons]
    have hno : inM acc it.path = false := by
      cases hh : inM acc it.path with
      | false => rfl
      | true => exact absurd (inM_iff.1 hh) (ha it (by simp))
    by_cases hk : it.kind = 2
    · have hs : stepF acc it = acc ++ [(it.path, it.data)] := by unfold stepF; rw [if_pos ⟨hk, hno⟩]
      rw [hs, fold_files l _ hn.2 (fun x hx => ?_), List.filter_cons, if_pos (by simpa using hk)]
      · simp
      · rw [List.map_append, List.mem_append]
        rintro (h | h)
        · exact ha x (by simp [hx]) h
        · have : x.path = it.path := by simpa using h
          exact hn.1 (List.mem_map.2 ⟨x, hx, this⟩)
    · have hs : stepF acc it = acc := by unfold stepF; rw [if_neg (fun h => hk h.1)]
      rw [hs, fold_files l _ hn.2 (fun x hx => ha x (by simp [hx])), List.filter_cons, if_neg (by simpa using hk)]
theorem fl_once {its : List It} (h : (its.map It.path).Nodup) : fl its = (its.filter fun it => decide (it.kind = 2)).map fun it => (it.path, linesOf it.data) := by
  unfold fl filesM
  rw [fold_files its [] h (fun _ _ => by simp)]
  simp
theorem fl_perm {its its' : List It} (h : (its.map It.path).Nodup) (hp : its.Perm its') (x : ByteArray × List ByteArray) : x ∈ fl its ↔ x ∈ fl its' := by
  rw [fl_once h, fl_once ((hp.map _).nodup_iff.1 h)]
  exact ((hp.filter _).map _).mem_iff
theorem fl_nodup {its : List It} (h : (its.map It.path).Nodup) : ((fl its).map Prod.fst).Nodup := by
  rw [fl_once h, List.map_map]
  exact (List.filter_sublist.map _).nodup h
theorem fl_len {its : List It} (h : (its.map It.path).Nodup) : (fl its).length = its.countP fun it => decide (it.kind = 2) := by
  rw [fl_once h, List.length_map, List.countP_eq_length_filter]
theorem turn_perm (l : List It) (n : Nat) : l.Perm (l.drop n ++ l.take n) := by
  have := List.perm_append_comm (l₁ := l.take n) (l₂ := l.drop n)
  rwa [List.take_append_drop] at this

end Go.Proofs.Ytdnckhagknlfhaa
