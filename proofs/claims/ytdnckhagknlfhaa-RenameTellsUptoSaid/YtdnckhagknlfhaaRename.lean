/-
  rename.Pairs: what it tells, in the program's own words (files, candidates, those that were taken). Nothing that was there is changed.
-/
import Derived.Test.YtdnckhagknlfhaaPairs
import Derived.Laws.EntriesVeiled
namespace Go.Proofs.Ytdnckhagknlfhaa
open Go.RowKit

/-- the files of items, in the order of their paths -/
def FilesOf (its : List It) (L : List FM) : Prop := (L.Pairwise fun x y => ¬ plt y.path x.path) ∧ (L.map fun x => (x.path, x.lines)).Perm ((filesM its).map fun p => (p.1, linesOf p.2))
/-- few items, of few bytes -/
def FitI (its : List It) : Prop := its.length ≤ 250 ∧ ∀ it ∈ its, it.path.size ≤ 1048576 ∧ it.data.size ≤ 1048576
theorem filesM_from {its : List It} {p : ByteArray × ByteArray} (h : p ∈ filesM its) : ∃ it ∈ its, it.kind = 2 ∧ it.path = p.1 ∧ it.data = p.2 := by
  unfold filesM at h
  suffices g : ∀ (l : List It) (acc : List (ByteArray × ByteArray)), p ∈ l.foldl stepF acc → p ∈ acc ∨ ∃ it ∈ l, it.kind = 2 ∧ it.path = p.1 ∧ it.data = p.2 from (g its [] h).elim (fun h => by cases h) id
  intro l
  induction l with
  | nil => intro acc h; exact .inl h
  | cons it l ih =>
    intro acc h
    rcases ih _ h with h1 | ⟨it', h1, h2⟩
    · unfold stepF at h1
      split at h1
      · rename_i hc
        rcases List.mem_append.1 h1 with h2 | h2
        · exact .inl h2
        · simp at h2
          exact .inr ⟨it, List.mem_cons_self, hc.1, by rw [h2], by rw [h2]⟩
      · exact .inl h1
    · exact .inr ⟨it', List.mem_cons_of_mem _ h1, h2⟩
theorem FilesOf.fit {its : List It} {L : List FM} (h : FilesOf its L) (hf : FitI its) : FitF L ∧ ∀ x ∈ L, x.path.size ≤ 140737488355328 := by
  have hlen : L.length ≤ 250 := by
    have h1 := h.2.length_eq
    rw [List.length_map, List.length_map] at h1
    have h2 := filesM_len its
    have h3 := hf.1
    omega
  have hx : ∀ x ∈ L, ∃ it ∈ its, x.path = it.path ∧ x.lines = linesOf it.data := fun x hx => by
    have h1 : (x.path, x.lines) ∈ (filesM its).map fun p => (p.1, linesOf p.2) := h.2.mem_iff.1 (List.mem_map.2 ⟨x, hx, rfl⟩)
    obtain ⟨p, hp, e⟩ := List.mem_map.1 h1
    obtain ⟨it, h2, _, h3, h4⟩ := filesM_from hp
    injection e with e1 e2
    exact ⟨it, h2, by rw [h3, ← e1], by rw [h4, ← e2]⟩
  refine ⟨⟨hlen, fun x hx' => ?_⟩, fun x hx' => ?_⟩
  · obtain ⟨it, h1, _, h3⟩ := hx x hx'
    have h4 := (hf.2 it h1).2
    rw [h3]
    refine ⟨?_, fun s hs => ?_⟩
    · unfold linesOf
      rw [List.length_map]
      have := Sp.Pl.split_length it.data.data.toList
      have e : it.data.data.toList.length = it.data.size := rfl
      omega
    · unfold linesOf at hs
      obtain ⟨l, hl, rfl⟩ := List.mem_map.1 hs
      have h5 := (List.sublist_flatten_of_mem hl).length_le
      rw [Sp.Pl.join_split] at h5
      have e : it.data.data.toList.length = it.data.size := rfl
      have e2 : (⟨l.toArray⟩ : ByteArray).size = l.length := by simp [ByteArray.size]
      rw [e2]
      unfold maxLen
      omega
  · obtain ⟨it, h1, h2, _⟩ := hx x hx'
    have := (hf.2 it h1).1
    rw [h2]; omega

theorem okC_all {L1 L2 : List FM} {t : Int} {c : CM} (h : c ∈ cAll L1 L2 (max t 1) L1.length) : OkC L1.length L2.length c := by
  obtain ⟨i, j, h1, h2, h3, rfl⟩ := cAll_mem.1 h
  refine ⟨by simp, by simpa using h1, by simp, by simpa using h2, ?_⟩
  show 1 ≤ ((scAt L1 L2 i j : Nat) : Int)
  omega
/-- a list of pairs that is read -/
def PrsAt (w : World) (A : Option Addr) (L : List Pr) : Prop :=
  L ≠ [] → ∃ a, A = some a ∧ a.block < w.heap.size ∧ ∀ k x, L[k]? = some x → w.cell? (a.add (k * 3)) = some (.string x.fr) ∧ w.cell? ⟨(a.add (k * 3)).block, (a.add (k * 3)).off + 1, none⟩ = some (.string x.tt) ∧ w.cell? ⟨(a.add (k * 3)).block, (a.add (k * 3)).off + 2, none⟩ = some (.int .i64 x.sc)
theorem prs_at {L : List Pr} : ∀ {k : Nat} {x : Pr}, L[k]? = some x → (L.flatMap Pr.cells)[k * 3]? = some (.string x.fr) ∧ (L.flatMap Pr.cells)[k * 3 + 1]? = some (.string x.tt) ∧ (L.flatMap Pr.cells)[k * 3 + 2]? = some (.int .i64 x.sc) := by
  induction L with
  | nil => intro k x h; simp at h
  | cons y L ih =>
    intro k x h
    have e : (y :: L).flatMap Pr.cells = y.cells ++ L.flatMap Pr.cells := by simp
    have hl : y.cells.length = 3 := rfl
    rw [e]
    cases k with
    | zero => simp at h; subst h; simp [Pr.cells]
    | succ k =>
      obtain ⟨h1, h2, h3⟩ := ih (k := k) (by simpa using h)
      refine ⟨?_, ?_, ?_⟩
      · rw [List.getElem?_append_right (by omega), hl, show (k + 1) * 3 - 3 = k * 3 from by omega]; exact h1
      · rw [List.getElem?_append_right (by omega), hl, show (k + 1) * 3 + 1 - 3 = k * 3 + 1 from by omega]; exact h2
      · rw [List.getElem?_append_right (by omega), hl, show (k + 1) * 3 + 2 - 3 = k * 3 + 2 from by omega]; exact h3
theorem PrsAt.of_own {w : World} {base n c : Nat} {A : Option Addr} {L : List Pr} (h : w.ownsRow base 37 3 (.slice A n c) n (L.flatMap Pr.cells)) (hn : L.length = n) : PrsAt w A L := fun hne => by
  obtain ⟨g, cap, hv, _, hlt⟩ := h.form (by rw [← hn]; exact List.length_pos_iff.2 hne)
  have hA : A = some ⟨g, 0, none⟩ := by injection hv
  subst hA
  refine ⟨_, rfl, hlt, fun k x hk => ?_⟩
  obtain ⟨h1, h2, h3⟩ := prs_at hk
  rw [field_at _ _ 1 (by decide), field_at _ _ 2 (by decide)]
  exact ⟨h.cells (g := g) rfl _ _ h1, h.cells (g := g) rfl _ _ h2, h.cells (g := g) rfl _ _ h3⟩
theorem PrsAt.up {w w' : World} {A : Option Addr} {L : List Pr} (h : PrsAt w A L) (hb : Below w.heap.size w w') : PrsAt w' A L := fun hn => by
  obtain ⟨a, e, hl, hc⟩ := h hn
  refine ⟨a, e, Nat.lt_of_lt_of_le hl hb.size, fun k it hk => ?_⟩
  obtain ⟨c0, c1, c2⟩ := hc k it hk
  have hlt : (a.add (k * 3)).block < w.heap.size := by rw [add_block]; exact hl
  exact ⟨(hb.cell hlt).trans c0, (hb.cell (p := ⟨_, _, none⟩) hlt).trans c1, (hb.cell (p := ⟨_, _, none⟩) hlt).trans c2⟩
/-- what Pairs tells, in the program's own words -/
def PairsRaw (its1 its2 : List It) (t : Int) (w : World) (e : Ending) (w' : World) : Prop :=
  ∃ (A' : Option Addr) (c' : Nat) (L1 L2 : List FM) (S : List CM), e = .returned (.slice A' (prsOf L1 L2 (takenM L1.length L2.length S).2).length c') ∧ FilesOf its1 L1 ∧ FilesOf its2 L2 ∧ S.Perm (cAll L1 L2 (max t 1) L1.length) ∧ (S.Pairwise fun x y => ¬ ccmp y x < 0) ∧
    PrsAt w' A' (prsOf L1 L2 (takenM L1.length L2.length S).2) ∧ Below w.heap.size w w'

set_option maxHeartbeats 4000000 in
set_option maxRecDepth 100000 in
theorem pairsRaw_any (A B : Option Addr) (its1 its2 : List It) (n1 n2 c d : Nat) (t : Int) (w : World) (ha : ItemsAt w A its1) (hb : ItemsAt w B its2) (hn1 : its1.length = n1) (hn2 : its2.length = n2) (hf1 : FitI its1) (hf2 : FitI its2) :
    Calls Try.prog 13 #[.slice A n1 c, .slice B n2 d, .int .i64 t] w (PairsRaw its1 its2 t w) := by
  have hz : ∀ {its : List It}, FitI its → ∀ it ∈ its, it.path.size ≤ maxLen ∧ it.data.size ≤ 1099511627776 := fun h it hi => by
    have := h.2 it hi; unfold maxLen; omega
  have HZ1 := Lib.hid (hz hf1)
  have HZ2 := Lib.hid (hz hf2)
  have HF1 := Lib.hid hf1
  have HF2 := Lib.hid hf2
  have l1 : n1 ≤ 65536 := by have := hf1.1; omega
  have l2 : n2 ≤ 65536 := by have := hf2.1; omega
  clear hz hf1 hf2
  go_enter Try.func13, Try.ntmps13
  go_wp2_with fail
  refine (files_any A its1 n1 c _ ha hn1 l1 HZ1.out).mono ?_
  rintro e w1 ⟨A1, m1, c1, L1, rfl, hm1, hA1, hs1, hp1, hB1⟩
  subst hm1
  have HL1 : Hid (FilesOf its1 L1) := Lib.hid ⟨hs1, hp1⟩
  clear hs1 hp1
  go_wp2_with fail
  refine (files_any B its2 n2 d _ (hb.up hB1) hn2 l2 HZ2.out).mono ?_
  rintro e w2 ⟨A2, m2, c2, L2, rfl, hm2, hA2, hs2, hp2, hbn⟩
  subst hm2
  have HL2 : Hid (FilesOf its2 L2) := Lib.hid ⟨hs2, hp2⟩
  replace hA1 := hA1.up hbn
  replace hB1 := hB1.trans (hbn.mono hB1.size)
  clear hs2 hp2 hbn ha hb hn1 hn2
  obtain ⟨hF1, hp1⟩ := HL1.out.fit HF1.out
  obtain ⟨hF2, hp2⟩ := HL2.out.fit HF2.out
  have k1 := hF1.1
  have k2 := hF2.1
  have HFF1 := Lib.hid hF1
  have HFF2 := Lib.hid hF2
  have HP1 := Lib.hid hp1
  have HP2 := Lib.hid hp2
  clear hF1 hF2 hp1 hp2
  go_wp2_with fail
  refine (cands_any A1 A2 L1 L2 L1.length L2.length c1 c2 t _ hA1 hA2 rfl rfl HFF1.out HFF2.out).mono ?_
  rintro e w3 ⟨v, rfl, hC⟩
  obtain ⟨A3, c3, rfl⟩ := own_slice hC.1
  have hCl : (cAll L1 L2 (max t 1) L1.length).length ≤ 62500 := Nat.le_trans (cAll_len L1 L2 (max t 1) L1.length) (Nat.mul_le_mul k1 k2)
  have HOK : Hid (∀ c ∈ cAll L1 L2 (max t 1) L1.length, OkC L1.length L2.length c) := Lib.hid (fun c hc => okC_all hc)
  obtain ⟨C, hCe⟩ : ∃ C, C = cAll L1 L2 (max t 1) L1.length := ⟨_, rfl⟩
  rw [← hCe] at hC hCl HOK ⊢
  have HCE := Lib.hid hCe
  clear hCe
  have hal : Below w3.heap.size w3 (w3.alloc (.cells #[.slice A3 C.length c3, .func (.func 24) #[] #[]] 56)) := (Below.refl _ _).alloc (Nat.le_refl _) _
  have hC2 := hC.up hal
  have hbx := Blk.new w3 56 #[.slice A3 C.length c3, .func (.func 24) #[] #[]]
  have HC2 := Lib.hid hC2
  have HBX := Lib.hid hbx
  have hA1' := hA1
  have hA2' := hA2
  clear hC hal hC2 hbx
  go_wp2_with fail
  refine (rsort_any (.slice A3 C.length c3) w2.heap.size C.length C _ HC2.out.1 rfl (by omega)).mono ?_
  rintro e w4 ⟨rfl, S, hperm, hsort, hown, hg⟩
  have hB4 : Below w2.heap.size w2 w4 := HC2.out.2.grown hg HC2.out.2.size (fun g e => (HC2.out.1.lt g e).1)
  have hbx4 := HBX.out.grown hg (own_blk_ne HC2.out.1 HBX.out (by decide))
  have b0 : w4.cell? ⟨w3.heap.size, 0, none⟩ = some (.slice A3 C.length c3) := hbx4.cell 0
  have hCA := CandsAt.of_own hown hperm.length_eq
  have HPERM := Lib.hid hperm
  have HSORT := Lib.hid hsort
  have hSl : S.length = C.length := hperm.length_eq
  have HSL := Lib.hid hSl
  have hokS : ∀ c ∈ S, OkC L1.length L2.length c := fun c hc => HOK.out c (hperm.mem_iff.1 hc)
  have HOKS := Lib.hid hokS
  clear hperm hsort hown hg hbx4 hSl hokS
  go_wp2_with fail
  refine (taken_any A3 S C.length c3 L1.length L2.length _ hCA HSL.out k1 k2 HOKS.out (by omega)).mono ?_
  rintro e w5 ⟨g, rfl, hF, hbn⟩
  have hok := takenM_ok HOKS.out
  have HOKT := Lib.hid hok
  have hB5 := hB4.trans (hbn.mono hB4.size)
  clear hok hbn
  go_wp2_with fail
  refine (pairs_any A1 A2 (some ⟨g, 0, none⟩) L1 L2 (takenM L1.length L2.length S).2 L1.length L2.length L2.length c1 c2 L2.length _ (hA1.up hB5) (hA2.up hB5) (CandsAt.of_blk hF) rfl rfl HOKT.out.l2 k2 HOKT.out.f HP1.out HP2.out).mono ?_
  rintro e w6 ⟨A6, c6, rfl, hP⟩
  have HP6 := Lib.hid hP
  have HB5 := Lib.hid hB5
  clear hP hB5
  go_wp2_with fail
  go_ret
  exact ⟨A6, c6, L1, L2, S, rfl, HL1.out, HL2.out, by rw [← HCE.out]; exact HPERM.out, HSORT.out.imp (fun {x y} h => by omega), PrsAt.of_own HP6.out.1 rfl, hB1.trans ((HB5.out.trans (HP6.out.2.mono HB5.out.size)).mono hB1.size)⟩

end Go.Proofs.Ytdnckhagknlfhaa
