/- The walks of the laws' awake and rows. -/
import Derived.Test.YtambddncncaehaaDoorWalLaw
import Derived.Lib.SlBytesConst
import Derived.Deep.QuietTactic
import Derived.BigQuiet
namespace Go.Proofs.YtambddncncaehaaDoor
open Go.RowKit Dk Wl
set_option linter.unusedVariables false
set_option maxRecDepth 100000

theorem tabAt {w : World} (h : Lib.TabIs Tryd.prog w "franking/crc.halfByte" .u32 crcTab) : TabAt w 0 := fun i hi => by
  have hg : Tryd.prog.globalNamed "franking/crc.halfByte" = some 0 := by kernel_rfl
  have := h.cell hg i (by have e : crcTab.length = 16 := by decide
                          omega)
  rw [this]
  have e : ∀ i : Fin 16, crcTab.getD i.val 0 = ((Crc.tab.getD i.val 0 : Nat) : Int) := by decide
  rw [e ⟨i, hi⟩]
theorem Grid.up {w : World} {B B' : Nat} {A : Option Addr} {ls : List (List UInt8)} (h : Grid w B A ls) (hB : B ≤ B') : Grid w B' A ls := fun hn => by
  obtain ⟨g, o, e, hg, hc⟩ := h hn
  refine ⟨g, o, e, by omega, fun j hj => ?_⟩
  obtain ⟨A', c, h1, h2, h3, h4⟩ := hc j hj
  exact ⟨A', c, h1, h2, h3, h4.mono hB⟩
theorem Strs.up {w : World} {B B' : Nat} {A : Option Addr} {ss : List ByteArray} (h : Strs w B A ss) (hB : B ≤ B') : Strs w B' A ss := fun hn => by
  obtain ⟨g, o, e, hg, hc⟩ := h hn
  exact ⟨g, o, e, by omega, hc⟩
theorem fresh_sane (n sz : Nat) (hn : 1 ≤ n) : Sane (fresh n) sz Lg.zero := ⟨rfl, rfl, rfl, fresh_holds n sz hn⟩
theorem law_open0 {B : Nat} {w0 w : World} {F : List Nat} {d n sz : Nat} (h : LawD B w0 w F d (fresh n)) (hn : 8 ≤ n) (hsz : sz = (n - 1) / 2) : Calls Tryd.prog 10 #[.pointer (some ⟨d, 0, none⟩)] w (LawOpen B w0 F d (fresh n) sz Lg.zero w) := by
  have hl : (fresh n).dur.length = n := List.length_replicate
  exact law_open h rfl rfl (fresh_holds n sz (by omega)) (by rw [hl]; exact hn) (by rw [hl]; exact hsz) (Lg.zero_ok (by omega))

section
variable {B : Nat} {w0 w : World} {F G : List Nat} {d l sz : Nat} {S : Disk} {L : Lg}
theorem law_addLit (h : Law B w0 w F G d l S sz L false) (hs : Sane S sz L) (cs : Array Value) (T : TypeId) (fr : Nat × Nat) (n : Nat) (body : List UInt8) (hcs : cs.toList = bv body) (hn : n = body.length) (hb : body.length ≤ 200000) (hfit : L.used + (body.length + 16) ≤ sz * 512) :
    Calls Tryd.prog 11 #[.pointer (some ⟨l, 0, none⟩), .slice (some ⟨w.heap.size, 0, none⟩) n n] (w.alloc (.cells cs T fr)) (LawEnd B w0 F G d l S sz (L.add body) (.int .i64 0) w) :=
  law_addNew h hs ((Below.refl _ _).alloc (Nat.le_refl _) _) w.heap.size n n body hn (Nat.le_refl _) (by unfold maxLen; omega) ((sees_new_at w T cs fr body hcs _ rfl).mono (by simp)) (Nat.le_refl _) hb hfit
theorem law_keepLit (h : Law B w0 w F G d l S sz L false) (hs : Sane S sz L) (cs : Array Value) (T : TypeId) (fr : Nat × Nat) (n : Nat) (body : List UInt8) (hcs : cs.toList = bv body) (hn : n = body.length) (hb : body.length ≤ 200000) (hfit : body.length + 16 ≤ sz * 512) :
    Calls Tryd.prog 12 #[.pointer (some ⟨l, 0, none⟩), .slice (some ⟨w.heap.size, 0, none⟩) n n] (w.alloc (.cells cs T fr)) (LawEnd B w0 F G d l S sz (L.keep body) (.int .i64 0) w) :=
  law_keepNew h hs ((Below.refl _ _).alloc (Nat.le_refl _) _) w.heap.size n n body hn (Nat.le_refl _) (by unfold maxLen; omega) ((sees_new_at w T cs fr body hcs _ rfl).mono (by simp)) (Nat.le_refl _) hb hfit
/-- What a call on the device ends in. -/
def LawDEnd (B : Nat) (w0 : World) (F : List Nat) (d : Nat) (S' : Disk) (v : Value) (w : World) (e : Ending) (w' : World) : Prop :=
  e = .returned v ∧ ∃ F', LawD B w0 w' F' d S' ∧ Only F w w' ∧ Grows F F' w
theorem LawDEnd.of {S' : Disk} {v : Value} {e : Ending} {w' : World} (h : LawD B w0 w F d S) (he : DevEnd F d S' v w e w') : LawDEnd B w0 F d S' v w e w' := by
  obtain ⟨h1, F', h2, h3, h4⟩ := he
  exact ⟨h1, F', h.turn h2 h3 h4, h3, h4⟩
theorem lawD_crash (h : LawD B w0 w F d S) (hc : S.cache = []) (A : Option Addr) (n c : Nat) (keep : List Int) (hn : n = keep.length) (hnc : n ≤ c) (hcm : c ≤ maxLen) (hk : SeesI w w.heap.size A keep) (torn : Int) :
    Calls Tryd.prog 15 #[.pointer (some ⟨d, 0, none⟩), .slice A n c, .int .i64 torn] w (LawDEnd B w0 F d (S.crash keep torn) (.tuple #[]) w) :=
  (crash_any w h.dev (by rw [hc]; simp) A n c keep hn hnc hcm hk torn).mono fun e w' he => LawDEnd.of h he
theorem lawD_on (h : LawD B w0 w F d S) : Calls Tryd.prog 17 #[.pointer (some ⟨d, 0, none⟩)] w (LawDEnd B w0 F d S.on (.tuple #[]) w) :=
  (on_any w h.dev).mono fun e w' he => LawDEnd.of h he
end

set_option maxHeartbeats 3200000 in
set_option maxRecDepth 100000 in
theorem walAwake_any (w : World) (ht : TabAt w tabG) : Calls Tryd.prog 8 #[] w fun e w' => e = .returned (.bool true) ∧ Below w.heap.size w w' := by
  have HT := Lib.hid ht
  have hnew := law_new (B := w.heap.size) (w0 := w) 64 (by omega) (by omega) (Below.refl _ _) (Nat.le_refl _) ht ht.lt
  rw [show ((64 : Nat) : Int) = 64 from rfl] at hnew
  have HNEW := Lib.hid hnew
  clear ht hnew
  have kc := fun (w : World) (C : Array Value) (n c : Nat) => Lib.run_convert_bytes_const (P := Tryd.prog) w 31 5 C n c Tryd.underlying31 Tryd.underlying5
  go_enter Tryd.func8, Tryd.ntmps8
  go_wp2_with fail
  refine HNEW.out.mono ?_
  rintro e w1 ⟨d, F, rfl, hd1, _⟩
  have HOP := Lib.hid (law_open0 (sz := 31) hd1 (by omega) rfl)
  clear HNEW hd1
  go_wp2_with fail
  refine HOP.out.mono ?_
  rintro e w2 ⟨l, G, rfl, hl2, _, _⟩
  have HA2 := Lib.hid (law_addLit hl2 (fresh_sane 64 31 (by omega)) #[.int .u8 97] 5 (1, 2) 1 [97] rfl rfl (by decide) (by rw [Lg.zero_used]; decide))
  clear HOP hl2
  go_wp2_with fail
  refine HA2.out.mono ?_
  rintro e w3 ⟨rfl, F3, G3, S3, hl3, hs3, _, hd3⟩
  have HA3 := Lib.hid (law_addLit hl3 hs3 #[.int .u8 98] 5 (1, 2) 1 [98] rfl rfl (by decide) (by rw [Lg.add_used, Lg.zero_used]; decide))
  clear HA2 hl3 hs3
  go_wp2_with fail
  refine HA3.out.mono ?_
  rintro e w4 ⟨rfl, F4, G4, S4, hl4, hs4, _, hd4⟩
  have hdd := hd4.trans (hd3.trans (show (fresh 64).dur.length = 64 from List.length_replicate))
  have hcr := lawD_crash hl4.toD hs4.safe none 0 0 [] rfl (Nat.le_refl _) (Nat.zero_le _) (SeesI.nil _ _ _) (-1)
  rw [crash_safe hs4.on hs4.safe] at hcr
  have HCR := Lib.hid hcr
  have HLO := Lib.hid (⟨hs4.holds, hl4.both.2.1⟩ : _ ∧ _)
  clear HA3 hl4 hs4 hd3 hd4 hcr kc
  go_wp2_with fail
  refine HCR.out.mono ?_
  rintro e w5 ⟨rfl, F5, hd5, _, _⟩
  have HON := Lib.hid (lawD_on hd5)
  clear HCR hd5
  go_wp2_with fail
  refine HON.out.mono ?_
  rintro e w6 ⟨rfl, F6, hd6, _, _⟩
  have HOP := Lib.hid (law_open (sz := 31) hd6 rfl rfl HLO.out.1 (by show 8 ≤ S4.dur.length; omega) (by show 31 = (S4.dur.length - 1) / 2; omega) HLO.out.2)
  clear HON hd6 hdd
  go_wp2_with fail
  refine HOP.out.mono ?_
  rintro e w7 ⟨m, G7, rfl, hl7, _, _⟩
  have hal := all_any hl7.both.1.log (by show 2 ≤ 1000000; omega) (by intro b hb; have hb' : b ∈ [[97], [98]] := hb; simp at hb'; rcases hb' with rfl | rfl <;> simp)
  have HAL := Lib.hid (show Calls Tryd.prog 14 #[.pointer (some ⟨m, 0, none⟩)] w7 (AllEnd [[97], [98]] w7) from hal)
  have HL7 := Lib.hid hl7
  clear HOP hl7 hal
  go_wp2_with fail
  refine HAL.out.mono ?_
  rintro e w8 ⟨A8, c8, rfl, hg8, h8a, h8b, hb8⟩
  obtain ⟨g, o, rfl, hgl, hat⟩ := hg8 (by simp)
  obtain ⟨Aa, ca, y0, _, _, sa⟩ := hat 0 (by decide)
  obtain ⟨Ab, cb, y1, _, _, sb⟩ := hat 1 (by decide)
  have v0 := run_sees_string (P := Tryd.prog) w8 31 9 5 Tryd.underlying31 Tryd.underlying5 Tryd.underlying9 sa 1 ca rfl
  have v1 := run_sees_string (P := Tryd.prog) w8 31 9 5 Tryd.underlying31 Tryd.underlying5 Tryd.underlying9 sb 1 cb rfl
  have z0 : w8.cell? ⟨g, o, none⟩ = some (.slice Aa 1 ca) := y0
  have z1 : w8.cell? ⟨g, o + 1, none⟩ = some (.slice Ab 1 cb) := y1
  have hl8 := HL7.out.below hb8
  have hba := base_any hl8.both.1.log (by simp [Lg.add, Lg.zero])
  have HBA := Lib.hid (show Calls Tryd.prog 18 #[.pointer (some ⟨m, 0, none⟩)] w8 fun e w' => ∃ A c, e = .returned (.slice A 0 c) ∧ Sees w' w'.heap.size A [] ∧ 0 ≤ c ∧ c ≤ maxLen ∧ Below w8.heap.size w8 w' from hba)
  have HB8 := Lib.hid (⟨hl8.bel, hl8.size⟩ : _ ∧ _)
  clear HAL HL7 hl8 hba hb8 hat y0 y1 sa sb hg8 h8a h8b
  go_wp2_with fail
  refine HBA.out.mono ?_
  rintro e w9 ⟨A9, c9, rfl, _, _, _, hb9⟩
  have HB9 := Lib.hid (HB8.out.1.trans (hb9.mono HB8.out.2))
  clear HBA hb9 z0 z1 v0 v1
  go_wp2
  go_ret
  exact ⟨rfl, HB9.out⟩

def bstr (l : List UInt8) : ByteArray := ⟨l.toArray⟩
theorem bstr_inj {a b : List UInt8} (h : bstr a = bstr b) : a = b := by
  unfold bstr at h
  injection h with h
  simpa using congrArg Array.toList h
theorem eq_of_upto {ls : List (List UInt8)} {ss : List ByteArray} (hl : ls.length = ss.length) (h : ∀ j (hj : j < ls.length), bstr ls[j] = ss[j]'(by omega)) : ls.map bstr = ss := by
  apply List.ext_getElem
  · simpa using hl
  · intro i h1 h2
    rw [List.getElem_map]
    exact h i (by simpa using h1)
set_option maxHeartbeats 1600000 in
set_option maxRecDepth 100000 in
theorem rows_any (w : World) (A : Option Addr) (n c : Nat) (ls : List (List UInt8)) (A2 : Option Addr) (n2 c2 : Nat) (ss : List ByteArray) (hn : n = ls.length) (hn2 : n2 = ss.length) (hm : n ≤ 1000000) (hm2 : n2 ≤ 1000000) (hg : Grid w w.heap.size A ls) (hs : Strs w w.heap.size A2 ss) (r : Bool) (hr : r = decide (ls.map bstr = ss)) :
    Calls Tryd.prog 13 #[.slice A n c, .slice A2 n2 c2] w fun e w' => e = .returned (.bool r) ∧ Below w.heap.size w w' := by
  subst hn hn2
  have HR := Lib.hid hr
  have HG := Lib.hid hg
  have HS := Lib.hid hs
  have hmI : (ls.length : Int) ≤ 1000000 := by omega
  have hmI2 : (ss.length : Int) ≤ 1000000 := by omega
  clear hr hg hs
  by_cases hl : ls.length = ss.length
  · have hlb : ((ls.length : Int) != (ss.length : Int)) = false := by rw [hl]; simp
    have HL := Lib.hid hl
    clear hl
    go_enter Tryd.func13, Tryd.ntmps13
    go_wp2
    go_loopw [5] (fun i wr => ∃ k : Nat, k ≤ ls.length ∧ i = .int .i64 k ∧ (∀ j (hj : j < k) (h1 : j < ls.length) (h2 : j < ss.length), bstr ls[j] = ss[j]) ∧ Below w.heap.size w wr) (fun i _ => ls.length - (intOf i).toNat)
    case atStart => exact ⟨0, Nat.zero_le _, rfl, fun j hj => absurd hj (by omega), Below.refl _ _⟩
    case round =>
      obtain ⟨k, hk, rfl, heq, hb⟩ := hrel
      have HEQ := Lib.hid heq
      have HB := Lib.hid hb
      clear heq hb
      by_cases hlt : k < ls.length
      · have hlt2 : k < ss.length := by have := HL.out; omega
        have hkI : (k : Int) < (ls.length : Int) := by omega
        have hkI2 : (k : Int) < (ss.length : Int) := by omega
        obtain ⟨g, o, rfl, hgl, hat⟩ := HG.out (by intro e; rw [e] at hlt; simp at hlt)
        obtain ⟨A3, c3, y, y1, y2, ys⟩ := hat k hlt
        obtain ⟨g2, o2, rfl, hgl2, hat2⟩ := HS.out (by intro e; rw [e] at hlt2; simp at hlt2)
        have z := hat2 k hlt2
        obtain ⟨x, Hx⟩ : ∃ x, Hid (x = ls[k]) := ⟨_, Lib.hid rfl⟩
        obtain ⟨t, Ht⟩ : ∃ t, Hid (t = ss[k]) := ⟨_, Lib.hid rfl⟩
        rw [← Hx.out] at y ys
        rw [← Ht.out] at z
        have y' : wr.cell? ⟨g, o + k, none⟩ = some (.slice A3 x.length c3) := (HB.out.cell (p := ⟨g, o + k, none⟩) hgl).trans y
        have z' : wr.cell? ⟨g2, o2 + k, none⟩ = some (.string t) := (HB.out.cell (p := ⟨g2, o2 + k, none⟩) hgl2).trans z
        have hcv : ∀ m, (convert 31 9 (.slice A3 x.length c3)).run Tryd.prog (wr.drewN m) = .ok (.string (bstr x)) (wr.drewN m) := fun m =>
          run_sees_string (P := Tryd.prog) (wr.drewN m) 31 9 5 Tryd.underlying31 Tryd.underlying5 Tryd.underlying9 ((ys.below HB.out (Nat.le_refl _)).drewN m) x.length c3 rfl
        obtain ⟨bx, Hbx⟩ : ∃ b, Hid (b = bstr x) := ⟨_, Lib.hid rfl⟩
        rw [← Hbx.out] at hcv
        clear y z ys hat hat2 y1 y2
        by_cases he : bx = t
        · subst he
          go_wp2
          go_quiet (fail)
          go_wp2
          go_roundw
          case rel =>
            refine ⟨k + 1, by omega, by go_num, fun j hj h1 h2 => ?_, below_drewN HB.out _⟩
            by_cases hjk : j = k
            · subst hjk
              rw [← Hx.out, ← Ht.out, ← Hbx.out]
            · exact HEQ.out j (by omega) h1 h2
          case measure => simp [intOf]; omega
        · have hne : (bx.toList == t.toList) = false := by
            rw [ByteArray.toList_eq, ByteArray.toList_eq, beq_eq_false_iff_ne]
            exact fun e => he (Go.WideShapes.bytes_inj e)
          have hne2 : (bx.data.toList == t.data.toList) = false := by
            rw [beq_eq_false_iff_ne]
            exact fun e => he (Go.WideShapes.bytes_inj e)
          have hrf : r = false := by
            rw [HR.out]
            simp only [decide_eq_false_iff_not]
            intro e
            apply he
            have := congrArg (fun l => l[k]?) e
            simp only [List.getElem?_map, List.getElem?_eq_getElem hlt, Option.map_some, List.getElem?_eq_getElem hlt2] at this
            injection this with this
            rw [Hbx.out, Ht.out, Hx.out, this]
          subst hrf
          clear he
          go_wp2
          go_quiet (fail)
          go_wp2
          go_ret
          exact ⟨rfl, below_drewN HB.out _⟩
      · have hrt : r = true := by
          rw [HR.out]
          simp only [decide_eq_true_eq]
          exact eq_of_upto HL.out (fun j hj => HEQ.out j (by omega) hj (by have := HL.out; omega))
        subst hrt
        have hkI : ¬ (k : Int) < (ls.length : Int) := by omega
        go_wp2
        go_ret
        exact ⟨rfl, HB.out⟩
  · have hlb : ((ls.length : Int) != (ss.length : Int)) = true := by simp; omega
    have hrf : r = false := by
      rw [HR.out]
      simp only [decide_eq_false_iff_not]
      intro e
      apply hl
      have := congrArg List.length e
      simpa using this
    subst hrf
    clear hl
    go_enter Tryd.func13, Tryd.ntmps13
    go_wp2
    go_ret
    exact ⟨rfl, Below.refl _ _⟩
end Go.Proofs.YtambddncncaehaaDoor
