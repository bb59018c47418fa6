/-
  collatorref08.touches: has a pair a file in common with one of some pairs? Nothing that was there is changed. Then plain mathematics for RenameTells: who takes the best candidate that is untouched, again and again, has the answer that there is.
-/
import Derived.Test.YtdnckhagknlfhaaTnSort
import Derived.Test.YtdnckhagknlfhaaTnP
import Derived.Test.YtdnckhagknlfhaaRefA
import Derived.Test.YtdnckhagknlfhaaBetter
namespace Go.Proofs.Ytdnckhagknlfhaa
section
open Go.RowKit

def touB (T : List Pr) (p : Pr) : Bool := T.any fun b => decide (b.fr = p.fr) || decide (b.tt = p.tt)
theorem touB_take {T : List Pr} {k : Nat} {b p : Pr} (h : T[k]? = some b) : touB (T.take (k + 1)) p = (touB (T.take k) p || (decide (b.fr = p.fr) || decide (b.tt = p.tt))) := by
  obtain ⟨hk, rfl⟩ := List.getElem?_eq_some_iff.1 h
  unfold touB
  rw [List.take_succ_eq_append_getElem hk, List.any_append]
  simp
theorem touB_true {T : List Pr} {k : Nat} {b p : Pr} (h : T[k]? = some b) (ht : b.fr = p.fr ∨ b.tt = p.tt) : touB T p = true :=
  List.any_eq_true.2 ⟨b, List.mem_of_getElem? h, by rcases ht with e | e <;> simp [e]⟩
theorem txt_dec (x y : ByteArray) : (x.toList == y.toList) = decide (x = y) := by
  rw [Lib.toList_data, Lib.toList_data, Bool.eq_iff_iff]
  simp only [beq_iff_eq, decide_eq_true_eq]
  exact ⟨data_inj, fun e => by rw [e]⟩

set_option maxHeartbeats 4000000 in
set_option maxRecDepth 100000 in
theorem touches_any (A : Option Addr) (T : List Pr) (n c : Nat) (p : Pr) (bo : Bool) (w : World) (ha : PrsAt w A T) (hn : T.length = n) (h1 : n ≤ 65536) (hbo : touB T p = bo) :
    Calls Try.prog 29 #[.slice A n c, pv p] w fun e w' => e = .returned (.bool bo) ∧ Below w.heap.size w w' := by
  subst hn
  obtain ⟨pf, pt, ps⟩ := p
  have HA := Lib.hid ha
  have HBO := Lib.hid hbo
  clear ha hbo
  go_enter Try.func29, Try.ntmps29
  go_wp2_with fail
  obtain ⟨g, hg⟩ : ∃ g, g = w.heap.size := ⟨_, rfl⟩
  have hbx : Blk (w.alloc (.cells #[.string pf, .string pt, .int .i64 ps] 37)) g 37 #[.string pf, .string pt, .int .i64 ps] := by rw [hg]; exact Blk.new _ _ _
  have hal : Below w.heap.size w (w.alloc (.cells #[.string pf, .string pt, .int .i64 ps] 37)) := (Below.refl _ _).alloc (Nat.le_refl _) _
  obtain ⟨W, hW⟩ : ∃ W, W = w.alloc (.cells #[.string pf, .string pt, .int .i64 ps] 37) := ⟨_, rfl⟩
  rw [← hW] at hbx hal ⊢
  rw [← hg]
  have HT := Lib.hid (HA.out.up hal)
  have HBX := Lib.hid hbx
  have HB := Lib.hid hal
  clear hW hbx hal hg HA
  go_loopw [5] (fun i wr => ∃ k q : Nat, k ≤ T.length ∧ i = .int .i64 k ∧ wr = W.drewN q ∧ Hid (touB (T.take k) ⟨pf, pt, ps⟩ = false)) (fun i _ => T.length - (intOf i).toNat)
  case atStart => exact ⟨0, 0, Nat.zero_le _, rfl, rfl, Lib.hid rfl⟩
  case round =>
    obtain ⟨k, q, hk, rfl, rfl, HF⟩ := hrel
    by_cases g1 : k < T.length
    case neg =>
      have HE : Hid (bo = false) := Lib.hid (by rw [← HBO.out]; have := HF.out; rwa [List.take_of_length_le (by omega)] at this)
      clear HF
      go_wp2_with fail
      go_ret
      exact ⟨by rw [HE.out]; rfl, below_drewN HB.out q⟩
    obtain ⟨⟨bf, bt, bs⟩, hit⟩ : ∃ b, T[k]? = some b := ⟨_, List.getElem?_eq_getElem g1⟩
    have HST := Lib.hid (touB_take (p := ⟨pf, pt, ps⟩) hit)
    have HIT := Lib.hid hit
    obtain ⟨a, rfl, hal, hca⟩ := HT.out (by intro e; subst e; simp at hit)
    obtain ⟨y0, y1, y2⟩ := hca k _ hit
    have z0 : W.cell? ⟨g, 0, none⟩ = some (.string pf) := HBX.out.cell 0
    have z1 : W.cell? ⟨g, 1, none⟩ = some (.string pt) := HBX.out.cell 1
    obtain ⟨vf, hvf⟩ : ∃ v, (bf.toList == pf.toList) = v := ⟨_, rfl⟩
    obtain ⟨vt, hvt⟩ : ∃ v, (bt.toList == pt.toList) = v := ⟨_, rfl⟩
    have HVF : Hid (decide (bf = pf) = vf) := Lib.hid (by rw [← txt_dec]; exact hvf)
    have HVT : Hid (decide (bt = pt) = vt) := Lib.hid (by rw [← txt_dec]; exact hvt)
    clear hca hit y2 hal
    cases vf with
    | true =>
      have HE : Hid (bo = true) := Lib.hid (by rw [← HBO.out]; exact touB_true HIT.out (.inl (of_decide_eq_true HVF.out)))
      clear hvt
      go_wp2_with fail
      go_quiet (fail)
      go_wp2_with fail
      go_ret
      exact ⟨by rw [HE.out]; rfl, by first | (rw [World.drewN_drewN]; exact below_drewN HB.out _) | exact below_drewN HB.out _⟩
    | false =>
      cases vt with
      | true =>
        have HE : Hid (bo = true) := Lib.hid (by rw [← HBO.out]; exact touB_true HIT.out (.inr (of_decide_eq_true HVT.out)))
        go_wp2_with fail
        go_quiet (fail)
        go_wp2_with fail
        go_ret
        exact ⟨by rw [HE.out]; rfl, by first | (rw [World.drewN_drewN]; exact below_drewN HB.out _) | exact below_drewN HB.out _⟩
      | false =>
        have HN : Hid (touB (T.take (k + 1)) ⟨pf, pt, ps⟩ = false) := Lib.hid (by rw [HST.out, HF.out]; simp only [HVF.out, HVT.out, Bool.or_self])
        go_wp2_with fail
        go_quiet (fail)
        go_wp2_with fail
        go_roundw
        case rel => exact ⟨k + 1, q + nq, by omega, by go_num, by first | rfl | rw [World.drewN_drewN], HN⟩
        case measure => simp [intOf]; omega

end

theorem touB_iff {T : List Pr} {p : Pr} : touB T p = true ↔ ∃ b ∈ T, Touch b p := by
  unfold touB Touch
  rw [List.any_eq_true]
  simp only [Bool.or_eq_true, decide_eq_true_eq]
theorem touB_not {T : List Pr} {p : Pr} (h : touB T p = false) : ∀ b ∈ T, ¬ Touch b p := fun b hb ht => by
  rw [touB_iff.2 ⟨b, hb, ht⟩] at h
  cases h
theorem touch_self (p : Pr) : Touch p p := .inl rfl
theorem touch_symm {p q : Pr} (h : Touch p q) : Touch q p := h.imp Eq.symm Eq.symm
/-- how the taking stands -/
structure GrT (l T : List Pr) : Prop where
  sub : ∀ p ∈ T, p ∈ l
  apart : T.Pairwise fun x y => ¬ Touch x y
  done : ∀ c ∈ l, touB T c = true → c ∈ T ∨ ∃ b ∈ T, Touch b c ∧ btr b c
  few : T.length + l.countP (fun c => !touB T c) ≤ l.length
theorem GrT.nil (l : List Pr) : GrT l [] := ⟨fun _ h => (by cases h), List.Pairwise.nil, fun c _ h => (by cases h), by simpa using List.countP_le_length⟩
/-- the best of those that are untouched, among the first ones -/
def BestIs (l T : List Pr) (k : Nat) (z : Int) : Prop :=
  (z = -1 ∧ ∀ c ∈ l.take k, touB T c = true) ∨ ∃ (j : Nat) (m : Pr), z = (j : Int) ∧ j < k ∧ l[j]? = some m ∧ touB T m = false ∧ ∀ c ∈ l.take k, touB T c = false → c = m ∨ btr m c
theorem BestIs.zero (l T : List Pr) : BestIs l T 0 (-1) := .inl ⟨rfl, fun c h => by simp at h⟩
theorem mem_take_succ {l : List Pr} {k : Nat} {c x : Pr} (h : l[k]? = some c) (hx : x ∈ l.take (k + 1)) : x ∈ l.take k ∨ x = c := by
  obtain ⟨hk, rfl⟩ := List.getElem?_eq_some_iff.1 h
  rw [List.take_succ_eq_append_getElem hk] at hx
  rcases List.mem_append.1 hx with h | h
  · exact .inl h
  · exact .inr (by simpa using h)
theorem BestIs.skip {l T : List Pr} {k : Nat} {z : Int} {c : Pr} (h : BestIs l T k z) (hc : l[k]? = some c) (ht : touB T c = true) : BestIs l T (k + 1) z := by
  rcases h with ⟨h1, h2⟩ | ⟨j, m, h1, h2, h3, h4, h5⟩
  · exact .inl ⟨h1, fun x hx => (mem_take_succ hc hx).elim (h2 x) (fun e => by rw [e]; exact ht)⟩
  · refine .inr ⟨j, m, h1, by omega, h3, h4, fun x hx hu => (mem_take_succ hc hx).elim (fun g => h5 x g hu) (fun e => by rw [e, ht] at hu; cases hu)⟩
theorem BestIs.first {l T : List Pr} {k : Nat} {c : Pr} (h : BestIs l T k (-1)) (hc : l[k]? = some c) (ht : touB T c = false) : BestIs l T (k + 1) (k : Int) := by
  rcases h with ⟨_, h2⟩ | ⟨j, m, h1, _⟩
  · refine .inr ⟨k, c, rfl, by omega, hc, ht, fun x hx hu => (mem_take_succ hc hx).elim (fun g => by rw [h2 x g] at hu; cases hu) .inl⟩
  · omega
theorem BestIs.next {l T : List Pr} {k j : Nat} {c m : Pr} (h : BestIs l T k (j : Int)) (hm : l[j]? = some m) (hc : l[k]? = some c) (ht : touB T c = false) : BestIs l T (k + 1) (if btr c m then (k : Int) else (j : Int)) := by
  rcases h with ⟨h1, _⟩ | ⟨j', m', h1, h2, h3, h4, h5⟩
  · omega
  · have e : j' = j := by omega
    subst e
    rw [hm] at h3
    injection h3 with h3
    subst h3
    by_cases hb : btr c m
    · rw [if_pos hb]
      refine .inr ⟨k, c, rfl, by omega, hc, ht, fun x hx hu => (mem_take_succ hc hx).elim (fun g => ?_) .inl⟩
      rcases h5 x g hu with e | e
      · rw [e]; exact .inr hb
      · exact .inr (btr_trans hb e)
    · rw [if_neg hb]
      refine .inr ⟨j', m, rfl, by omega, hm, h4, fun x hx hu => (mem_take_succ hc hx).elim (fun g => h5 x g hu) (fun e => ?_)⟩
      by_cases hcm : c = m
      · exact .inl (e.trans hcm)
      · rcases btr_total hcm with g | g
        · exact absurd g hb
        · rw [e]; exact .inr g
theorem touB_snoc (T : List Pr) (m c : Pr) : touB (T ++ [m]) c = (touB T c || (decide (m.fr = c.fr) || decide (m.tt = c.tt))) := by
  unfold touB
  rw [List.any_append]
  simp
theorem GrT.step {l T : List Pr} {j : Nat} {m : Pr} (h : GrT l T) (hm : l[j]? = some m) (hb : BestIs l T l.length (j : Int)) : GrT l (T ++ [m]) ∧ T.length + 1 ≤ l.length := by
  rw [BestIs, List.take_of_length_le (Nat.le_refl _)] at hb
  rcases hb with ⟨h1, _⟩ | ⟨j', m', h1, _, h3, h4, h5⟩
  · omega
  · have e : j' = j := by omega
    subst e
    rw [hm] at h3
    injection h3 with h3
    subst h3
    have hml := List.mem_of_getElem? hm
    have hlt : l.countP (fun c => !touB (T ++ [m]) c) < l.countP (fun c => !touB T c) := countP_lt (x := m) (fun y hy => by
      rw [touB_snoc] at hy
      cases hh : touB T y with
      | false => rfl
      | true => rw [hh] at hy; simp at hy) hml (by rw [h4]; rfl) (by rw [touB_snoc]; simp)
    have hf := h.few
    refine ⟨⟨?_, ?_, ?_, ?_⟩, by omega⟩
    · intro p hp
      rcases List.mem_append.1 hp with hp | hp
      · exact h.sub p hp
      · have : p = m := by simpa using hp
        rw [this]; exact hml
    · rw [List.pairwise_append]
      refine ⟨h.apart, List.pairwise_singleton _ _, fun a ha b hb => ?_⟩
      have : b = m := by simpa using hb
      rw [this]
      exact touB_not h4 a ha
    · intro c hc ht
      cases hh : touB T c with
      | true =>
        rcases h.done c hc hh with g | ⟨b, hb, g⟩
        · exact .inl (List.mem_append_left _ g)
        · exact .inr ⟨b, List.mem_append_left _ hb, g⟩
      | false =>
        rw [touB_snoc, hh] at ht
        have htm : Touch m c := by simpa [Touch] using ht
        rcases h5 c hc hh with e | e
        · exact .inl (List.mem_append_right _ (by simp [e]))
        · exact .inr ⟨m, List.mem_append_right _ (by simp), htm, e⟩
    · rw [List.length_append, List.length_singleton]; omega
theorem apart_all {T : List Pr} (h : T.Pairwise fun x y => ¬ Touch x y) : ∀ x ∈ T, ∀ y ∈ T, Touch x y → x = y := by
  induction T with
  | nil => intro x hx; cases hx
  | cons z T ih =>
    obtain ⟨h1, h2⟩ := List.pairwise_cons.1 h
    intro x hx y hy ht
    rcases List.mem_cons.1 hx with ex | hx <;> rcases List.mem_cons.1 hy with ey | hy
    · rw [ex, ey]
    · exact absurd (by rw [ex] at ht; exact ht) (h1 y hy)
    · exact absurd (touch_symm (by rw [ey] at ht; exact ht)) (h1 x hx)
    · exact ih h2 x hx y hy ht
theorem GrT.end_ {l T O : List Pr} {C : Pr → Prop} (h : GrT l T) (hC : ∀ c, c ∈ l ↔ C c) (hb : BestIs l T l.length (-1)) (hp : O.Perm T) (hs : SortP O) : IsP C O := by
  rw [BestIs, List.take_of_length_le (Nat.le_refl _)] at hb
  have hall : ∀ c ∈ l, touB T c = true := by
    rcases hb with ⟨_, h2⟩ | ⟨j, m, h1, _⟩
    · exact h2
    · omega
  have hap : O.Pairwise fun x y => ¬ Touch x y := (hp.pairwise_iff (fun {x y} hn ht => hn (touch_symm ht))).2 h.apart
  refine ⟨?_, fun c hc => (hC c).1 (h.sub c (hp.mem_iff.1 hc)), apart_all hap, fun c hc => ?_⟩
  · refine (hs.and hap).imp fun {x y} hxy => ?_
    rcases plt_total x.tt y.tt with g | g | g
    · exact g
    · exact absurd (.inr g) hxy.2
    · exact absurd g hxy.1
  · have hcl := (hC c).2 hc
    rcases h.done c hcl (hall c hcl) with g | ⟨b, hb, g⟩
    · exact .inl (hp.mem_iff.2 g)
    · exact .inr ⟨b, hp.mem_iff.2 hb, g⟩

theorem fl_filesI (its : List It) : fl its = (filesI its).map fun it => (it.path, linesOf it.data) := by
  unfold fl
  rw [← filesI_M, List.map_map]
  rfl
theorem cand_is {its1 its2 : List It} {t : Int} (c : Pr) : c ∈ candAll (filesI its1) (filesI its2) t ↔ CandM (fl its1) (fl its2) t c := by
  rw [fl_filesI, fl_filesI]
  unfold candAll candRow CandM
  simp only [List.mem_flatMap, List.mem_filter, List.mem_map]
  constructor
  · rintro ⟨x, hx, ⟨y, hy, rfl⟩, ho⟩
    unfold okP at ho
    simp only [Bool.and_eq_true, decide_eq_true_eq] at ho
    exact ⟨_, ⟨x, hx, rfl⟩, _, ⟨y, hy, rfl⟩, rfl, by show max t 1 ≤ (candOf x y).sc; omega⟩
  · rintro ⟨_, ⟨x, hx, rfl⟩, _, ⟨y, hy, rfl⟩, rfl, hm⟩
    refine ⟨x, hx, ⟨y, hy, rfl⟩, ?_⟩
    unfold okP
    simp only [Bool.and_eq_true, decide_eq_true_eq]
    constructor <;> simp only [] at hm <;> omega
theorem cand_size {its1 its2 : List It} {t : Int} (h1 : FitI its1) (h2 : FitI its2) : ∀ p ∈ candAll (filesI its1) (filesI its2) t, p.fr.size ≤ 1048576 ∧ p.tt.size ≤ 1048576 := by
  unfold candAll candRow
  simp only [List.mem_flatMap, List.mem_filter, List.mem_map]
  rintro p ⟨x, hx, ⟨y, hy, rfl⟩, _⟩
  exact ⟨(h1.2 x (filesI_sub x hx)).1, (h2.2 y (filesI_sub y hy)).1⟩
theorem cand_few {its1 its2 : List It} {t : Int} (h1 : FitI its1) (h2 : FitI its2) : (candAll (filesI its1) (filesI its2) t).length ≤ 62500 := by
  have e1 := candAll_len (filesI its2) t (filesI its1)
  have e2 := Nat.mul_le_mul (Nat.le_trans (filesI_len its1) h1.1) (Nat.le_trans (filesI_len its2) h2.1)
  omega

end Go.Proofs.Ytdnckhagknlfhaa
