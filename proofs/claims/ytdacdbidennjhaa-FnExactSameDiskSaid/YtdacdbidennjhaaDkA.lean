/-
  Contracts of spec's disks: DiskNew, EntryAt, l06Has, l05Node, NodeAt, UsedOn, FileNames, ReadFile.
-/
import Derived.Test.YtdacdbidennjhaaDkMath
namespace Go.Proofs.Ytdacdbidennjhaa.disk
open Go.RowKit
open kit strs recs

end Go.Proofs.Ytdacdbidennjhaa.disk
