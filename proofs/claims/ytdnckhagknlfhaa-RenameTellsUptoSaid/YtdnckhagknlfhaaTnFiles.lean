/-
  collatorref08.files: the document's own files of items, those whose path was not there before. Nothing that was there is changed.
-/
import Derived.Test.YtdnckhagknlfhaaIts
import Derived.Test.YtdnckhagknlfhaaRefA
namespace Go.Proofs.Ytdnckhagknlfhaa
open Go.RowKit

def hasP (its : List It) (p : ByteArray) : Bool := its.any fun it => decide (it.path = p)
def stepI (acc : List It) (it : It) : List It := if it.kind = 2 ∧ hasP acc it.path = false then acc ++ [it] else acc
/-- the files of items -/
def filesI (its : List It) : List It := its.foldl stepI []
theorem filesI_take {its : List It} {k : Nat} {it : It} (h : its[k]? = some it) : filesI (its.take (k + 1)) = stepI (filesI (its.take k)) it := by
  obtain ⟨hk, rfl⟩ := List.getElem?_eq_some_iff.1 h
  unfold filesI
  rw [List.take_succ_eq_append_getElem hk, List.foldl_append]
  rfl
theorem stepI_len (acc : List It) (it : It) : (stepI acc it).length ≤ acc.length + 1 := by
  unfold stepI
  split
  · simp
  · omega
theorem foldI_len : ∀ (l acc : List It), (l.foldl stepI acc).length ≤ acc.length + l.length
  | [], acc => by simp
  | it :: l, acc => by
    have h1 := foldI_len l (stepI acc it)
    have h2 := stepI_len acc it
    simp only [List.foldl_cons, List.length_cons]
    omega
theorem filesI_len (its : List It) : (filesI its).length ≤ its.length := by have := foldI_len its []; simpa [filesI] using this
theorem foldI_sub : ∀ (l acc : List It), ∀ it ∈ l.foldl stepI acc, it ∈ acc ∨ it ∈ l
  | [], acc => fun it h => .inl h
  | x :: l, acc => fun it h => by
    rcases foldI_sub l (stepI acc x) it h with h | h
    · unfold stepI at h
      split at h
      · rcases List.mem_append.1 h with h | h
        · exact .inl h
        · exact .inr (by have : it = x := by simpa using h
                         simp [this])
      · exact .inl h
    · exact .inr (by simp [h])
theorem filesI_sub {its : List It} : ∀ it ∈ filesI its, it ∈ its := fun it h => (foldI_sub its [] it h).elim (fun h => by cases h) id
def pd (it : It) : ByteArray × ByteArray := (it.path, it.data)
theorem inM_map (acc : List It) (p : ByteArray) : inM (acc.map pd) p = hasP acc p := by
  unfold inM hasP
  rw [List.any_map]
  rfl
theorem foldI_M : ∀ (l acc : List It), (l.foldl stepI acc).map pd = l.foldl stepF (acc.map pd)
  | [], acc => rfl
  | it :: l, acc => by
    rw [List.foldl_cons, List.foldl_cons, foldI_M l]
    congr 1
    unfold stepI stepF
    rw [inM_map]
    split
    · rw [List.map_append]; rfl
    · rfl
theorem filesI_M (its : List It) : (filesI its).map pd = filesM its := foldI_M its []

theorem find_had (A : Option Addr) (its : List It) (n c : Nat) (p : ByteArray) (b : Bool) (w : World) (ha : ItemsAt w A its) (hn : its.length = n) (h1 : n ≤ 65536) (hb : hasP its p = b) :
    Calls Try.prog 16 #[.slice A n c, .string p] w fun e w' => (∃ (q : ByteArray) (k : Int) (d : ByteArray) (z : Bool), e = .returned (.tuple #[.agg #[.string q, .int .i64 k, .string d, .bool z], .bool b])) ∧ Below w.heap.size w w' := by
  refine (find_any A its n c p w ha hn h1).mono ?_
  rintro e w' ⟨hf, hB⟩
  refine ⟨?_, hB⟩
  rcases hf with ⟨k, it, hk, hp, _, rfl⟩ | ⟨hno, rfl⟩
  · have hbt : b = true := by
      rw [← hb]
      exact List.any_eq_true.2 ⟨it, List.mem_of_getElem? hk, by simpa using hp⟩
    subst hbt
    exact ⟨_, _, _, _, rfl⟩
  · have hbf : b = false := by
      rw [← hb]
      exact List.any_eq_false.2 fun it hi => by simpa using hno it hi
    subst hbf
    exact ⟨_, _, _, _, rfl⟩

set_option maxHeartbeats 4000000 in
set_option maxRecDepth 100000 in
theorem rfiles_any (A : Option Addr) (its : List It) (n c : Nat) (w : World) (ha : ItemsAt w A its) (hn : its.length = n) (h1 : n ≤ 60000) :
    Calls Try.prog 47 #[.slice A n c] w fun e w' => ∃ A' c', e = .returned (.slice A' (filesI its).length c') ∧ ItemsAt w' A' (filesI its) ∧ Below w.heap.size w w' := by
  subst hn
  have HA := Lib.hid ha
  clear ha
  go_enter Try.func47, Try.ntmps47
  go_wp2_with fail
  go_loopw [3, 4] (fun v i wr => ∃ (k : Nat) (L : List It), k ≤ its.length ∧ i = .int .i64 k ∧ OwnI w wr v L ∧ Hid (L = filesI (its.take k))) (fun _ i _ => its.length - (intOf i).toNat)
  case atStart => exact ⟨0, [], Nat.zero_le _, rfl, OwnI.nil w, Lib.hid rfl⟩
  case round =>
    obtain ⟨k, L, hk, rfl, hO, HL⟩ := hrel
    obtain ⟨Av, cv, rfl⟩ := own_slice hO.1
    have hll : L.length ≤ k := by rw [HL.out]; exact Nat.le_trans (filesI_len _) (List.length_take_le _ _)
    have hMit := ItemsAt.of_own hO.1 rfl
    have HO := Lib.hid hO
    clear hO
    by_cases g1 : k < its.length
    · obtain ⟨⟨p, z, d, bd⟩, hit⟩ : ∃ it, its[k]? = some it := ⟨_, List.getElem?_eq_getElem g1⟩
      have HST := Lib.hid (filesI_take hit)
      obtain ⟨a, rfl, hal, q0, q1, q2, q3⟩ := (HA.out.up HO.out.2).at_ hit
      have HC : Hid (∀ W, Below wr.heap.size wr W → W.cell? (a.add (k * 4)) = some (.string p) ∧ W.cell? ⟨(a.add (k * 4)).block, (a.add (k * 4)).off + 1, none⟩ = some (.int .i64 z) ∧ W.cell? ⟨(a.add (k * 4)).block, (a.add (k * 4)).off + 2, none⟩ = some (.string d) ∧ W.cell? ⟨(a.add (k * 4)).block, (a.add (k * 4)).off + 3, none⟩ = some (.bool bd)) := Lib.hid fun W hB => by
        have hlt : (a.add (k * 4)).block < wr.heap.size := by rw [add_block]; exact hal
        exact ⟨(hB.cell hlt).trans q0, (hB.cell (p := ⟨_, _, none⟩) hlt).trans q1, (hB.cell (p := ⟨_, _, none⟩) hlt).trans q2, (hB.cell (p := ⟨_, _, none⟩) hlt).trans q3⟩
      clear hit q1 q2 q3
      obtain ⟨b, hb⟩ : ∃ b, hasP L p = b := ⟨_, rfl⟩
      have HBV := Lib.hid hb
      clear hb
      go_wp2_with fail
      refine (find_had Av L L.length cv p b _ hMit rfl (by omega) HBV.out).mono ?_
      rintro e w1 ⟨⟨q, y, f, u, rfl⟩, hB1⟩
      have hal1 : Below w1.heap.size w1 (w1.alloc (.cells #[.string q, .int .i64 y, .string f, .bool u] 33)) := (Below.refl _ _).alloc (Nat.le_refl _) _
      have hO2 := (HO.out.up hB1).up hal1
      obtain ⟨c0, c1, c2, c3⟩ := HC.out _ (hB1.trans (hal1.mono hB1.size))
      have HO2 := Lib.hid hO2
      clear hB1 q0 hMit hO2 hal
      by_cases e1 : z = 2
      case neg =>
        have f1 : ((z : Int) == 2) = false := by rw [beq_eq_false_iff_ne]; exact e1
        have HN : Hid (L = filesI (its.take (k + 1))) := Lib.hid (by rw [HST.out, ← HL.out]; unfold stepI; rw [if_neg (fun h => e1 h.1)])
        clear e1 hal1
        go_wp2_with fail
        go_roundw
        case rel => exact ⟨k + 1, L, by omega, by go_num, HO2.out, HN⟩
        case measure => simp [intOf]; omega
      subst e1
      cases b with
      | true =>
        have HN : Hid (L = filesI (its.take (k + 1))) := Lib.hid (by rw [HST.out, ← HL.out]; unfold stepI; rw [if_neg (fun h => by rw [HBV.out] at h; exact absurd h.2 (by simp))])
        clear hal1
        go_wp2_with fail
        go_roundw
        case rel => exact ⟨k + 1, L, by omega, by go_num, HO2.out, HN⟩
        case measure => simp [intOf]; omega
      | false =>
        obtain ⟨N, hN⟩ : ∃ N, L.length + 1 = N := ⟨_, rfl⟩
        have HN : Hid (L ++ [⟨p, 2, d, bd⟩] = filesI (its.take (k + 1))) := Lib.hid (by rw [HST.out, ← HL.out]; unfold stepI; rw [if_pos ⟨rfl, HBV.out⟩])
        obtain ⟨A7, c7, W7, hrun7, hO7, _⟩ := HO2.out.push ⟨p, 2, d, bd⟩ N hN (by omega)
        have hsz4 : (w1.alloc (.cells #[.string q, .int .i64 y, .string f, .bool u] 33)).heap.size = w1.heap.size + 1 := by simp
        dsimp only at hrun7
        rw [hsz4] at hrun7
        have HR7 := Lib.hid hrun7
        have HO7 := Lib.hid hO7
        clear hrun7 hO7 hal1 hsz4
        go_wp2_with (at_builtin; refine wpList_append_run rfl rfl (by simp [Region.wanted]) rfl rfl HR7.out ?_)
        go_roundw
        case rel => exact ⟨k + 1, L ++ [⟨p, 2, d, bd⟩], by omega, by go_num, HO7.out, HN⟩
        case measure => simp [intOf]; omega
    · have HE : Hid (L = filesI its) := Lib.hid (by rw [HL.out, List.take_of_length_le (by omega)])
      clear HL
      go_wp2_with fail
      go_ret
      refine ⟨Av, cv, by rw [← HE.out]; rfl, by rw [← HE.out]; exact hMit, HO.out.2⟩

end Go.Proofs.Ytdnckhagknlfhaa
