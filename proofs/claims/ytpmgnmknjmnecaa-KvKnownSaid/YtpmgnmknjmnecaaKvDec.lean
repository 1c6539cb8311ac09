/- Decode. -/
import Derived.Test.YtpmgnmknjmnecaaKvCPut
import Derived.Test.YtpmgnmknjmnecaaKvEncR
namespace Go.Proofs.Ytpmgnmknjmnecaa
open Go.RowKit Kv
set_option linter.unusedVariables false

def DecEnd (l : List UInt8) (w : World) (e : Ending) (w' : World) : Prop :=
  match decP l with
  | none => e = .returned (.tuple #[.slice none 0 0, .int .i64 3]) ∧ Below w.heap.size w w'
  | some L => ∃ A n c D, e = .returned (.tuple #[.slice A n c, .int .i64 0]) ∧ n = L.length ∧ D.map DEnt.pt = L ∧ DRow w' (.slice A n c) D ∧ Below w.heap.size w w' ∧ ∀ b, b ∈ blk (.slice A n c) → w.heap.size ≤ b
/-- What has been read of l0: the Puts D, what is left lb. -/
structure DAt (w0 wr : World) (l0 lb : List UInt8) (Ab Al : Option Addr) (cb cl : Nat) (D : List DEnt) : Prop where
  rd : lb.length ≤ cb ∧ cb ≤ maxLen ∧ Sees wr w0.heap.size Ab lb
  row : DRow wr (.slice Al D.length cl) D
  bel : Below w0.heap.size w0 wr
  high : ∀ b, b ∈ blk (.slice Al D.length cl) → w0.heap.size ≤ b
  dec : decP l0 = (decP lb).map fun t => D.map DEnt.pt ++ t
  few : D.length + lb.length ≤ l0.length

set_option maxHeartbeats 3200000 in
set_option maxRecDepth 100000 in
theorem decode_any (w : World) (A : Option Addr) (n c : Nat) (l : List UInt8) (hn : n = l.length) (hnc : n ≤ c) (hcm : c ≤ maxLen) (hbig : n ≤ 100000000) (hs : Sees w w.heap.size A l) :
    Calls Try.prog 12 #[.slice A n c] w (DecEnd l w) := by
  subst hn
  obtain ⟨w0, rfl⟩ : ∃ w0, w0 = w := ⟨_, rfl⟩
  have HS := Lib.hid hs
  clear hs
  go_enter Try.func12, Try.ntmps12
  go_wp2
  go_loopw [0, 4] (fun b d wr => ∃ (lb : List UInt8) (Ab Al : Option Addr) (cb cl : Nat) (D : List DEnt), b = .slice Ab lb.length cb ∧ d = .slice Al D.length cl ∧ Hid (DAt w0 wr l lb Ab Al cb cl D)) (fun b _ _ => match b with | .slice _ n _ => n | _ => 0)
  case atStart => exact ⟨l, A, none, c, 0, [], rfl, rfl, Lib.hid ⟨⟨hnc, hcm, HS.out⟩, DRow.nil _, Below.refl _ _, fun b hb => by simp [blk, Value.ownBlock] at hb, by simp, by simp⟩⟩
  case round =>
    obtain ⟨lb, Ab, Al, cb, cl, D, rfl, rfl, HI⟩ := hrel
    cases lb with
    | nil =>
      have hd : decP l = some (D.map DEnt.pt) := by rw [HI.out.dec, show decP [] = some [] from rfl]; simp
      have key : DecEnd l w0 (.returned (.tuple #[.slice Al D.length cl, .int .i64 0])) wr := by
        unfold DecEnd
        rw [hd]
        exact ⟨Al, _, cl, D, rfl, by simp, rfl, HI.out.row, HI.out.bel, HI.out.high⟩
      have KEY := Lib.hid key
      clear key hd
      go_wp2
      go_ret2
      exact KEY.out
    | cons c0 t =>
      obtain ⟨g, o, rfl, hg, _⟩ := HI.out.rd.2.2 (by simp)
      obtain ⟨N, HN⟩ : ∃ N, Hid (N = (c0 :: t).length) := ⟨_, Lib.hid rfl⟩
      have hcut := cutPut_any wr w0.heap.size g o (c0 :: t).length cb c0 t rfl HI.out.rd.1 HI.out.rd.2.1 HI.out.rd.2.2 HI.out.bel.size
      have hNp : 0 < N := by rw [HN.out]; simp
      have hNI : (0 : Int) < (N : Int) := by omega
      rw [← HN.out] at hcut ⊢
      have HCUT := Lib.hid hcut
      clear hcut
      go_wp2_with fail
      refine HCUT.out.mono ?_
      rintro e w2 ⟨k, A2, n2, c2, gg, v2, ok, rfl, hb2, hm⟩
      have hst := dec_step eatsP (b := c0 :: t) (by simp)
      have hdl := HI.out.dec
      rw [show decP (c0 :: t) = decG cutP (c0 :: t).length (c0 :: t) from rfl, hst] at hdl
      have hb2w : Below w0.heap.size w0 w2 := HI.out.bel.trans (hb2.mono HI.out.bel.size)
      cases hc : cutP (c0 :: t) with
      | none =>
        rw [hc] at hm hdl
        simp only at hm
        subst hm
        have hno : decP l = none := by rw [hdl]; rfl
        have key : ∀ W, Below w2.heap.size w2 W → DecEnd l w0 (.returned (.tuple #[.slice none 0 0, .int .i64 3])) W := fun W hW => by
          unfold DecEnd
          rw [hno]
          exact ⟨rfl, hb2w.trans (hW.mono hb2w.size)⟩
        have KEY := Lib.hid key
        clear key hno hst hdl hb2 hb2w HCUT
        go_wp2
        go_ret2
        exact KEY.out _ ((Below.refl _ _).alloc (Nat.le_refl _) _)
      | some y =>
        obtain ⟨x, r⟩ := y
        rw [hc] at hm hdl
        obtain ⟨rfl, e1, e2, e3, m1, m2, m3, A6, c6, rfl, m4, m5, m6⟩ := hm
        have hcs := cutP_some hc
        have hsh := cut_shorter hcs.1
        have hokx := ok1_iff.1 hcs.2
        obtain ⟨xk, xv, xg⟩ := x
        simp only at e1 e2 e3 m3 hokx
        subst e1 e2 e3
        have hw0r : w0.heap.size ≤ wr.heap.size := HI.out.bel.size
        obtain ⟨w3, Hw3⟩ : ∃ w3, Hid (w3 = w2.alloc (.cells #[.string xk, .slice A2 xv.length c2, .bool xg] 29)) := ⟨_, Lib.hid rfl⟩
        have hb3 : Below w2.heap.size w2 w3 := by rw [Hw3.out]; exact (Below.refl _ _).alloc (Nat.le_refl _) _
        have hbx3 : PBox w3 w2.heap.size xk A2 xv.length c2 xg := by rw [Hw3.out]; exact heap_alloc_new w2 _
        have hb3w : Below w0.heap.size w0 w3 := hb2w.trans (hb3.mono hb2w.size)
        have hse3 : Sees w3 w0.heap.size A2 xv := (m3.below hb2 hw0r).below hb3 (Nat.le_trans hw0r hb2.size)
        have hcl := clone_val A2 xv.length c2 w0.heap.size xv w3 rfl (by omega) hse3
        have hrow3 := (HI.out.row.below hb2).below hb3
        have HLT : Hid (∀ b, b ∈ blk (.slice Al D.length cl) → b < w2.heap.size) := Lib.hid (own_lt (HI.out.row.below hb2).row)
        have HST : Hid (decP l = (decP r).map fun t => D.map DEnt.pt ++ ⟨xk, xv, xg⟩ :: t) := Lib.hid (by
          rw [hdl]
          simp only [Option.map_map]
          rfl)
        have HFEW : Hid (D.length + 1 + r.length ≤ l.length) := Lib.hid (by have := HI.out.few; omega)
        have HRD : Hid (r.length ≤ c6 ∧ c6 ≤ maxLen ∧ Sees w3 w0.heap.size A6 r) := Lib.hid ⟨m4, m5, (m6.below hb2 hw0r).below hb3 (Nat.le_trans hw0r hb2.size)⟩
        have HSH : Hid (r.length < N) := Lib.hid (by rw [HN.out]; exact hsh)
        have HCL := Lib.hid hcl
        have HROW3 := Lib.hid hrow3
        have HBX3 := Lib.hid hbx3
        have HB3W := Lib.hid hb3w
        have HHI := Lib.hid HI.out.high
        have hpb : w0.heap.size ≤ w2.heap.size := hb2w.size
        have hps : w2.heap.size < w3.heap.size := by rw [Hw3.out]; simp
        obtain ⟨y1, y2⟩ := hbx3.cells
        obtain ⟨y3, y4, y5⟩ := y1
        have y4' := y4
        rw [Hw3.out] at y4'
        have hlD : D.length + 1 ≤ 1000000000 := by have := HFEW.out; omega
        clear hst hdl hb2 hb2w hc m1 m2 m3 m4 m5 m6 hcs hsh hokx hb3 hbx3 hb3w hse3 hcl hrow3 HCUT HI hg
        go_wp2_with fail
        rw [← Hw3.out]
        refine HCL.out.mono ?_
        rintro e w4 ⟨A4, c4, rfl, _, _, hr4, hb4, _⟩
        have hbx4 := HBX3.out.below hb4
        obtain ⟨⟨q1, q2, q3⟩, q4, q5, q6⟩ := hbx4.cells
        obtain ⟨⟨x1, x2, x3⟩, _⟩ := (hbx4.set1 (A' := A4) (n' := xv.length) (c' := c4)).cells
        have hset : Only [w2.heap.size] w4 (w4.setCell ⟨w2.heap.size, 1, none⟩ (.slice A4 xv.length c4)) := only_setCell w4 ⟨w2.heap.size, 1, none⟩ _
        have hbxn := (NoB.of_cells hbx4 (by decide))
        have hfar5 : Far w4 (blk (.slice Al D.length cl)) [w2.heap.size] := fun b hb => by
          rw [List.mem_singleton] at hb; subst hb
          exact ⟨fun hm => by have := HLT.out _ hm; omega, hbxn⟩
        have hrow5 := (HROW3.out.below hb4).far hset hfar5
        have hr5 : BRow (w4.setCell ⟨w2.heap.size, 1, none⟩ (.slice A4 xv.length c4)) (.slice A4 xv.length c4) xv := hr4.far hset (fun b hb => by rw [List.mem_singleton] at hb; subst hb; exact ⟨by simp, hbxn⟩ : Far w4 [] [w2.heap.size])
        obtain ⟨A7, c7, D7, w7, HD7, hap, hd7, ho7, hg7⟩ := drow_one (w4.setCell ⟨w2.heap.size, 1, none⟩ (.slice A4 xv.length c4)) _ D hrow5 xk A4 xv.length c4 xg xv hr5 hlD
        have hsz5 : (w4.setCell ⟨w2.heap.size, 1, none⟩ (.slice A4 xv.length c4)).heap.size = w4.heap.size := by simp [World.setCell]
        have hb4w : Below w0.heap.size w0 w4 := HB3W.out.trans (hb4.mono HB3W.out.size)
        have hb5w : Below w0.heap.size w0 (w4.setCell ⟨w2.heap.size, 1, none⟩ (.slice A4 xv.length c4)) := hb4w.setCell hpb _
        have hb7 : Below w0.heap.size (w4.setCell ⟨w2.heap.size, 1, none⟩ (.slice A4 xv.length c4)) w7 := ho7.below hb5w.size HHI.out
        have HNEXT : Hid (DAt w0 w7 l r A6 A7 c6 c7 D7) := Lib.hid ⟨⟨HRD.out.1, HRD.out.2.1, ((HRD.out.2.2.below hb4 HB3W.out.size).below (Below.setCell (Below.refl w0.heap.size w4) hpb _) (Nat.le_refl _)).below hb7 (Nat.le_refl _)⟩, hd7, hb5w.trans hb7, fun b hb => (hg7 b hb).elim (HHI.out b) (fun h' => Nat.le_trans hb5w.size h'),
          by rw [HST.out, HD7.out, List.map_append]; simp [DEnt.pt], by rw [HD7.out, List.length_append]; simp; have := HFEW.out; omega⟩
        rw [hsz5] at hap
        have HAP := Lib.hid hap
        clear hset hbxn hfar5 hrow5 hr5 hap hd7 ho7 hg7 hsz5 hb4w hb5w hb7 hr4 hb4 hbx4 HCL HROW3 HBX3 HB3W HHI HRD HST HFEW HLT y3 y4 y5 y4' y2
        go_wp2_with (at_builtin; refine wpList_append_run rfl _ _ 31 rfl _ (.slice Al D.length cl) (.slice (some ⟨w4.heap.size, 0, none⟩) 1 1) rfl rfl (.slice A7 D7.length c7) w7 (by exact HAP.out) ?_)
        go_roundw
        case rel => exact ⟨r, A6, A7, c6, c7, D7, rfl, rfl, HNEXT⟩
        case measure => exact HSH.out
end Go.Proofs.Ytpmgnmknjmnecaa
