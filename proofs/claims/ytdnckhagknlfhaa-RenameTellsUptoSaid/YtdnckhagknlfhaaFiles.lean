/-
  rename.files: the files of items, in the order of their paths, each with its lines. Nothing that was there is changed.
-/
import Derived.Test.YtdnckhagknlfhaaItems
import Derived.Deep.RegionLaw
namespace Go.Proofs.Ytdnckhagknlfhaa
open Go.RowKit Go.Maps Go.WideMaps

/-- what files tells -/
def FilesTold (its : List It) (w : World) (e : Ending) (w' : World) : Prop :=
  ∃ (A' : Option Addr) (n c' : Nat) (L : List FM), e = .returned (.slice A' n c') ∧ L.length = n ∧ FilesAt w' A' L ∧ (L.Pairwise fun x y => ¬ plt y.path x.path) ∧
    (L.map fun x => (x.path, x.lines)).Perm ((filesM its).map fun p => (p.1, linesOf p.2)) ∧ Below w.heap.size w w'
/-- between two rounds -/
def FilesIn (w : World) (its : List It) (k : Nat) (v : Value) (wr : World) : Prop :=
  ∃ (L : List FM) (D : DataW Unit), Fls w wr v L ∧ wr.ownsMap Try.prog 9 (plainElem Try.prog 4) w.heap.size k D ∧ Known (filesM (its.take k)) D ∧ (L.map fun x => (x.path, x.lines)) = (filesM (its.take k)).map fun p => (p.1, linesOf p.2)
/-- a round that takes no file -/
theorem FilesIn.pass {w wr w' : World} {its : List It} {k : Nat} {v : Value} {it : It} (h : FilesIn w its k v wr) (hk : its[k]? = some it) (hno : it.kind ≠ 2 ∨ inM (filesM (its.take k)) it.path = true) (hb : Below wr.heap.size wr w') : FilesIn w its (k + 1) v w' := by
  obtain ⟨L, D, h1, h2, h3, h4⟩ := h
  have e : filesM (its.take (k + 1)) = filesM (its.take k) := by
    rw [filesM_take hk]
    unfold stepF
    rw [if_neg]
    rintro ⟨a, b⟩
    rcases hno with h | h
    · exact h a
    · rw [h] at b; cases b
  refine ⟨L, D, h1.up hb, (h2.kept (grown_of_below hb none) (by simp)).mono (by omega), by rw [e]; exact h3, by rw [e]; exact h4⟩
theorem map_block_ne {w : World} {b n : Nat} {D : DataW Unit} {k : TypeId} {R : Value → Option (DataW Unit × List MemPlace)} (h : w.ownsMap Try.prog k R b n D) {base : Nat} {e : TypeId} {size m : Nat} {v : Value} {xs : List Value} (ho : w.ownsRow base e size v m xs) : v.ownBlock = none ∨ v.ownBlock ≠ some b := by
  obtain ⟨es, clock, hb, _⟩ := h
  rcases ho.2 with ⟨rfl, _⟩ | ⟨g, cap, cur, rfl, _, hg, _⟩
  · left; rfl
  · right
    intro e'
    injection e' with e'
    subst e'
    rw [hb] at hg
    cases hg
theorem map_strs_ne {w : World} {b n : Nat} {D : DataW Unit} {k : TypeId} {R : Value → Option (DataW Unit × List MemPlace)} (h : w.ownsMap Try.prog k R b n D) {B : Nat} {A : Option Addr} {ss : List ByteArray} (hs : Strs w B A ss) : ss ≠ [] → ∀ a, A = some a → some b ≠ some a.block := fun hn a ha e => by
  obtain ⟨es, clock, hb, _⟩ := h
  obtain ⟨a', e', _, hc⟩ := hs hn
  rw [ha] at e'
  injection e' with e'
  subst e'
  injection e with e
  cases ss with
  | nil => exact hn rfl
  | cons s ss =>
    have := hc 0 s rfl
    simp [Addr.add] at this
    simp [World.cell?, ← e, hb] at this

theorem Fls.kept {w0 w w' : World} {v : Value} {L : List FM} {row : Option Nat} (h : Fls w0 w v L) (hg : w.grownBy w' row) (h1 : v.ownBlock = none ∨ v.ownBlock ≠ row) (h2 : ∀ x ∈ L, x.lines ≠ [] → ∀ a, x.A = some a → row ≠ some a.block) (hb : Below w0.heap.size w0 w') : Fls w0 w' v L :=
  ⟨World.ownsRow.kept h.row hg h1, fun x hx => Strs.kept (h.lines x hx) hg (h2 x hx), h.apart, hb⟩
theorem own_slice {w : World} {base n size : Nat} {e : TypeId} {v : Value} {xs : List Value} (h : w.ownsRow base e size v n xs) : ∃ A c, v = .slice A n c := by
  rcases h.2 with ⟨rfl, h0⟩ | ⟨g, cap, cur, rfl, _⟩
  · exact ⟨none, 0, by rw [h0]⟩
  · exact ⟨_, cap, rfl⟩
theorem filesM_len (its : List It) : (filesM its).length ≤ its.length := by
  unfold filesM
  suffices h : ∀ (l : List It) (acc : List (ByteArray × ByteArray)), (l.foldl stepF acc).length ≤ acc.length + l.length from by simpa using h its []
  intro l
  induction l with
  | nil => intro acc; simp
  | cons it l ih =>
    intro acc
    have h1 := ih (stepF acc it)
    have h2 : (stepF acc it).length ≤ acc.length + 1 := by unfold stepF; split <;> simp
    simp only [List.foldl_cons, List.length_cons]
    omega

set_option maxHeartbeats 4000000 in
set_option maxRecDepth 100000 in
theorem files_any (A : Option Addr) (its : List It) (n c : Nat) (w : World) (ha : ItemsAt w A its) (hn : its.length = n) (h1 : n ≤ 65536) (hsz : ∀ it ∈ its, it.path.size ≤ maxLen ∧ it.data.size ≤ 1099511627776) :
    Calls Try.prog 22 #[.slice A n c] w (FilesTold its w) := by
  have HSZ := Lib.hid hsz
  have hmm := @run_makeMap Try.prog
  clear hsz
  subst hn
  go_enter Try.func22, Try.ntmps22
  go_wp2_with fail
  go_loopw [3, 10] (fun v i wr => ∃ k : Nat, k ≤ its.length ∧ i = .int .i64 k ∧ FilesIn w its k v wr) (fun _ i _ => its.length - (intOf i).toNat)
  case atStart =>
    exact ⟨0, Nat.zero_le _, rfl, [], .map [], ⟨World.ownsRow_nil _ _ _ _, by simp, by simp, (Below.refl _ _).alloc (Nat.le_refl _) _⟩, World.ownsMap_made _ _ _ _, Known.nil, rfl⟩
  case round =>
    obtain ⟨k, hk, rfl, hT⟩ := hrel
    by_cases g1 : k < its.length
    · obtain ⟨it, hit⟩ : ∃ it, its[k]? = some it := ⟨_, List.getElem?_eq_getElem g1⟩
      have hB : Below w.heap.size w wr := by obtain ⟨_, _, h, _⟩ := hT; exact h.below
      obtain ⟨a, rfl, hal, c0, c1, c2, c3⟩ := (ha.up hB).at_ hit
      obtain ⟨hps, hds⟩ := HSZ.out it (List.mem_of_getElem? hit)
      have HT := Lib.hid hT
      have HIT := Lib.hid hit
      clear hT
      by_cases g2 : it.kind = 2
      · have n1 : ((it.kind == 2) : Bool) = true := by rw [g2]; rfl
        have n2 : ((it.kind != 2) : Bool) = false := by rw [g2]; rfl
        obtain ⟨L, D, hF, hown, hK, hL⟩ := HT.out
        have hlk := lookup_known (hown.alloc (.cells #[.string it.path, .int .i64 it.kind, .string it.data, .bool it.bad] 33)) hK it.path hps
        by_cases g3 : inM (filesM (its.take k)) it.path = true
        · rw [g3] at hlk
          have HB' : Hid (∀ W, Below wr.heap.size wr W → FilesIn w its (k + 1) u3 W) := Lib.hid (fun W hb => HT.out.pass HIT.out (.inr g3) hb)
          clear g2 g3 hF hown hK hL hit
          go_wp2_with fail
          go_roundw
          case rel => exact ⟨k + 1, by omega, by go_num, HB'.out _ ((Below.refl _ _).alloc (Nat.le_refl _) _)⟩
          case measure => simp [intOf]; omega
        · have g3' : inM (filesM (its.take k)) it.path = false := by simpa using g3
          rw [g3'] at hlk
          have hkey : keyOf Try.prog 9 (.string it.path) = some (keyS it.path) := keyOf_string_mk Try.underlying9 hps
          have HKEY := Lib.hid hkey
          have HOWN := Lib.hid (hown.alloc (.cells #[.string it.path, .int .i64 it.kind, .string it.data, .bool it.bad] 33))
          have hal : Below wr.heap.size wr (wr.alloc (.cells #[.string it.path, .int .i64 it.kind, .string it.data, .bool it.bad] 33)) := (Below.refl _ _).alloc (Nat.le_refl _) _
          have HF := Lib.hid (hF.up hal)
          have hlen : L.length ≤ k := by
            have h1 := congrArg List.length hL
            rw [List.length_map, List.length_map] at h1
            have h2 := filesM_len (its.take k)
            rw [List.length_take] at h2
            omega
          have HNEW : Hid (filesM (its.take (k + 1)) = filesM (its.take k) ++ [(it.path, it.data)]) := Lib.hid (by rw [filesM_take hit]; unfold stepF; rw [if_pos ⟨g2, g3'⟩])
          have HL := Lib.hid hL
          have HK := Lib.hid hK
          have hbx := Blk.new wr 33 #[.string it.path, .int .i64 it.kind, .string it.data, .bool it.bad]
          have HBX := Lib.hid hbx
          have hm0 : w.heap.size < wr.heap.size := hown.lt
          clear g2 g3 g3' hkey hF hown hK hL hit hal hbx
          go_wp2_with (at_mapUpdate; refine wpList_mapUpdate_own _ rfl _ _ _ 74 rfl 9 4 law9 Try.underlying74 _ w.heap.size k D rfl HOWN.out (by unfold maxLen; omega) _ _ _ rfl rfl HKEY.out _ [] (plainElem_bool Try.underlying4 true) ?_; intro w1 hown1 hgrow1)
          have hbx1 : Blk w1 wr.heap.size 33 #[.string it.path, .int .i64 it.kind, .string it.data, .bool it.bad] := HBX.out.grown hgrow1 (fun e => by injection e with e; omega)
          have b0 : w1.cell? ⟨wr.heap.size, 0, none⟩ = some (.string it.path) := hbx1.cell 0
          have b2 : w1.cell? ⟨wr.heap.size, 2, none⟩ = some (.string it.data) := hbx1.cell 2
          have hF1 : Fls w w1 u3 L := HF.out.kept hgrow1 (map_block_ne HOWN.out HF.out.row) (fun x hx => map_strs_ne HOWN.out (HF.out.lines x hx)) (HF.out.below.grown hgrow1 HF.out.below.size (fun g e => by injection e with e; omega))
          have HF1 := Lib.hid hF1
          have HOWN1 := Lib.hid hown1
          have HLT : Hid (wr.heap.size < w1.heap.size) := Lib.hid hbx1.lt
          clear hF1 hown1 hgrow1 hbx1 hlk
          go_region_law ((first | (refine step_append_run2 HR7.out rfl rfl rfl ?_ ?_ ?_; (focus (first | (simp [Act.eval]; done) | (simp [Act.eval, Act.put]; done))); (focus (first | (simp [Act.eval]; done) | (simp [Act.eval, Act.put]; done)))) | (go_simp; refine (Sp.split_any it.data hds _).mono ?_; rintro e w3 ⟨ys, As, cs, rfl, hy1, hy2, hy3, hy4, hy5, hb3⟩; have p0 : w3.cell? ⟨wr.heap.size, 0, none⟩ = some (.string it.path) := (hb3.cell (p := ⟨wr.heap.size, 0, none⟩) HLT.out).trans b0; have HF3 : Hid (Fls w w3 u3 L) := Lib.hid ((HF1.out.up ((Below.refl _ _).drew)).up hb3); obtain ⟨A7, c7, W7, hrun7, hF7, hg7⟩ := HF3.out.push ⟨it.path, hps, As, ys, cs⟩ hy2 (fun _ b hb e => absurd (HF1.out.row.lt _ e).2 (Nat.not_lt.2 (hy5 b hb))) (L.length + 1) rfl (by omega); dsimp only at hrun7; have HR7 := Lib.hid hrun7; have HF7 := Lib.hid hF7; have HY1 := Lib.hid (lines_of_txts hy1); have HM3 : Hid (w3.ownsMap Try.prog 9 (plainElem Try.prog 4) w.heap.size (k + 1) (D.put (keyS it.path) (.lit (.bool true)))) := Lib.hid (HOWN1.out.drew.kept (grown_of_below hb3 none) (by simp)); have HM7 := Lib.hid (HM3.out.kept hg7 (fun e => (map_block_ne HM3.out HF3.out.row).elim (fun h => by rw [h] at e; cases e) (fun h => h e.symm))); clear hrun7 hF7 hg7 hy1 hy2 hy5; dsimp only)))
          all_goals
            go_wp2_with fail
            go_roundw
            case rel => exact ⟨k + 1, by omega, by go_num, L ++ [⟨it.path, hps, As, ys, cs⟩], D.put (keyS it.path) (.lit (.bool true)), HF7.out, HM7.out, by rw [HNEW.out]; exact HK.out.put HOWN.out.isMap _ _, by rw [HNEW.out, List.map_append, List.map_append, HL.out, HY1.out]; rfl⟩
            case measure => simp [intOf]; omega
      · have n1 : ((it.kind == 2) : Bool) = false := by simp [g2]
        have n2 : ((it.kind != 2) : Bool) = true := by simp [g2]
        have HB' : Hid (∀ W, Below wr.heap.size wr W → FilesIn w its (k + 1) u3 W) := Lib.hid (fun W hb => HT.out.pass HIT.out (.inl g2) hb)
        clear g2 hit
        go_wp2_with fail
        go_roundw
        case rel => exact ⟨k + 1, by omega, by go_num, HB'.out _ ((Below.refl _ _).alloc (Nat.le_refl _) _)⟩
        case measure => simp [intOf]; omega
    · obtain ⟨L, D, hF, _, _, hL⟩ := hT
      rw [List.take_of_length_le (by omega)] at hL
      have hlen : L.length ≤ its.length := by
        have h1 := congrArg List.length hL
        rw [List.length_map, List.length_map] at h1
        have h2 := filesM_len its
        omega
      obtain ⟨A3, c3, rfl⟩ := own_slice hF.row
      have HL := Lib.hid hL
      have HF := Lib.hid hF
      clear hL hF
      go_wp2_with fail
      refine (sortFiles_any (.slice A3 L.length c3) w.heap.size L.length L _ HF.out.row rfl (by omega)).mono ?_
      rintro e w' ⟨rfl, L', hperm, hsort, hown, hg⟩
      have HP := Lib.hid hperm
      have HS := Lib.hid hsort
      have HO := Lib.hid hown
      have HG := Lib.hid hg
      clear hperm hsort hown hg
      go_wp2_with fail
      go_ret
      refine ⟨A3, L.length, c3, L', rfl, HP.out.length_eq, FilesAt.of_own HO.out HP.out.length_eq (fun x hx => ?_), HS.out, ?_, HF.out.below.grown HG.out HF.out.below.size (fun g e => (HF.out.row.lt g e).1)⟩
      · have hx' := HP.out.mem_iff.1 hx
        exact Strs.kept (HF.out.lines x hx') HG.out (HF.out.apart x hx')
      · rw [← HL.out]
        exact HP.out.map _

end Go.Proofs.Ytdnckhagknlfhaa
